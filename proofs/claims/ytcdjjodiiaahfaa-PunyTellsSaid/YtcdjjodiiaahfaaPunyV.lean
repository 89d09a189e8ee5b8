/-
  A text at its last hyphen; a text with one digit less, or with another byte in the place of a digit.
-/
import Derived.Test.YtcdjjodiiaahfaaPunyU
import Derived.Test.YtcdjjodiiaahfaaPunyE
namespace Go.Proofs.Ytcdjjodiiaahfaa
open Go.RowKit Go.Shelf Puny

theorem last_hd {Y : List Nat} {c : Int} {r : Int} (hc : c = 45) (h : LastIs (encT Y) (UInt8.ofNat c.toNat) r) : r + 1 = ((hd Y).length : Int) := by
  subst hc
  have e45 : UInt8.ofNat (Int.toNat 45) = 45 := rfl
  rw [e45] at h
  rcases h with ⟨rfl, hn⟩ | ⟨a, b, he, hb, rfl⟩
  · by_cases h1 : Puny.basics Y = []
    · rw [hd_nil h1]; rfl
    · exact absurd (by rw [encT_parts]; exact List.mem_append_left _ (mem_hd h1)) hn
  · by_cases h1 : Puny.basics Y = []
    · rw [encT_parts, hd_nil h1, List.nil_append] at he
      exact absurd (by rw [he]; simp) (tl_no45 Y)
    · rw [encT_parts, hd_cons h1, List.append_assoc, List.singleton_append] at he
      have e1 := splitLast_mk (a := (Puny.basics Y).map UInt8.ofNat) (tl_no45 Y)
      rw [he, splitLast_mk hb] at e1
      simp only [Option.some.injEq, Prod.mk.injEq] at e1
      rw [hd_cons h1, List.length_append, ← e1.1]
      simp
theorem ext0_data (s : ByteArray) (i : Nat) : (s.extract 0 i).data.toList = s.data.toList.take i := by
  rw [ByteArray.data_extract, Array.toList_extract, List.extract_eq_take_drop, List.drop_zero, Nat.sub_zero]
theorem cut_data {s : ByteArray} {Y : List Nat} (h : s.data.toList = encT Y) : (s.extract 0 (s.size - 1)).data.toList = (encT Y).dropLast := by
  rw [ext0_data, Lib.size_eq, h, List.dropLast_eq_take]
theorem byte_data (c : Int) : (strOfNums [c]).data.toList = [UInt8.ofNat c.toNat] := by
  rw [strOfNums_data]; rfl
theorem put_list (H t : List UInt8) (q : Nat) (x : UInt8) (hq : q < t.length) : (H ++ t).take (H.length + q) ++ [x] ++ (H ++ t).drop (H.length + q + 1) = H ++ t.set q x := by
  rw [List.take_append, List.drop_append, List.take_of_length_le (by omega), List.drop_of_length_le (by omega), List.set_eq_take_append_cons_drop, if_pos hq, show H.length + q - H.length = q by omega, show H.length + q + 1 - H.length = q + 1 by omega]
  simp
theorem put_data {s : ByteArray} {Y : List Nat} {q : Nat} {c : Int} (h : s.data.toList = encT Y) (hq : q < (tl Y).length) :
    ((s.extract 0 ((hd Y).length + q) ++ strOfNums [c]) ++ s.extract ((hd Y).length + q + 1) s.size).data.toList = hd Y ++ (tl Y).set q (UInt8.ofNat c.toNat) := by
  rw [app_data, app_data, ext_data, ext0_data, byte_data c, h, encT_parts]
  exact put_list _ _ _ _ hq
theorem worth_none {c : Int} (h0 : 0 ≤ c) (h1 : c ≤ 255) (ha : ¬ (97 ≤ c ∧ c ≤ 122)) (hb : ¬ (48 ≤ c ∧ c ≤ 57)) : worth (UInt8.ofNat c.toNat) = none := by
  have e : (UInt8.ofNat c.toNat).toNat = c.toNat := by simp; omega
  unfold worth
  rw [e, if_neg (by omega), if_neg (by omega)]
theorem ne45 {c : Int} (h0 : 0 ≤ c) (h1 : c ≤ 255) (h : c ≠ 45) : UInt8.ofNat c.toNat ≠ 45 := fun e => by
  have := congrArg UInt8.toNat e
  simp at this
  omega
/-- the rows of a text that stands in for another one -/
theorem same_text {Y m : List Nat} {bad s : ByteArray} (hY : ∀ x ∈ Y, sca x = true) (hs : s.data.toList = encT Y) (hm : dt bad.data.toList = some m) : (bad.toList == s.toList) = decide (m = Y) := by
  rw [str_beq, decide_eq_decide, bytes_ext, hs]
  obtain ⟨h1, h2, _⟩ := enc_dt hm
  rw [← h1]
  exact enc_inj h2 hY
theorem none_text {Y : List Nat} {bad s : ByteArray} (hY : ∀ x ∈ Y, sca x = true) (hs : s.data.toList = encT Y) (hm : dt bad.data.toList = none) : (bad.toList == s.toList) = false := by
  rw [str_beq]
  refine decide_eq_false fun e => ?_
  rw [e, hs, dt_enc hY] at hm
  cases hm
theorem conv_byte_d (c : Int) (w : World) : (convert 34 9 (.slice (some ⟨w.heap.size, 0, none⟩) 1 1)).run Try.prog (w.alloc (.cells #[.int .u8 c] 5)).drew = .ok (.string (strOfNums [c])) (w.alloc (.cells #[.int .u8 c] 5)).drew :=
  run_convert_bytes_arg _ 34 5 Try.underlying34 Try.underlying5 w.heap.size 0 1 1 [c] (by simp) (fun i hi => by
    obtain rfl : i = 0 := by omega
    exact news_new w #[.int .u8 c] 5 [.int .u8 c] rfl 0 (.int .u8 c) rfl) 9 Try.underlying9
end Go.Proofs.Ytcdjjodiiaahfaa
