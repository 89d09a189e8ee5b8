/-
  strings.HasPrefix where there is one; a code point as text; a text's bytes.
-/
import Derived.Test.YtcdjjodiiaahfaaPunyT
namespace Go.Proofs.Ytcdjjodiiaahfaa
open Go.RowKit Go.Shelf Puny

def Truly (w : World) (e : Ending) (w' : World) : Prop := e = .returned (.bool true) ∧ w = w'
theorem prefix_beq {s p : ByteArray} {r : List UInt8} (h : s.data.toList = p.data.toList ++ r) : ((s.extract 0 p.size).toList == p.toList) = true := by
  rw [str_beq, decide_eq_true_eq, bytes_ext]
  have e : (s.extract 0 p.size).data.toList = s.data.toList.take p.size := by
    rw [ByteArray.data_extract, Array.toList_extract]
    simp
  rw [e, h, Lib.size_eq, List.take_left]
theorem HasPrefix_yes (s p : ByteArray) (r : List UInt8) (w : World) (h : s.data.toList = p.data.toList ++ r) :
    Calls Try.prog 15 #[.string s, .string p] w (Truly w) := by
  have hz : p.size ≤ s.size := by rw [Lib.size_eq, Lib.size_eq, h, List.length_append]; omega
  have hb := prefix_beq h
  have hzz : (p.size : Int) ≤ (s.size : Int) := by omega
  have h1 : Calls Try.prog 36 #[.string s, .string p] w (Truly w) := by
    go_enter Try.func36, Try.ntmps36
    go_wp2
    go_ret
    exact ⟨rfl, rfl⟩
  have H := Lib.hid h1
  clear h1
  go_enter Try.func15, Try.ntmps15
  go_wp2_with (first | (go_at_call 36; refine H.out.mono ?_; rintro e w' ⟨rfl, rfl⟩) | fail)
  go_ret
  exact ⟨rfl, rfl⟩

theorem enc_ascii (r : Nat) (h : r < 128) : Utf8.encode (r : Int) = ⟨#[UInt8.ofNat r]⟩ := by
  unfold Utf8.encode
  have hv : Utf8.valid (r : Int) = true := by
    unfold Utf8.valid
    simp
    omega
  simp only [hv, if_true, Int.toNat_natCast, h]
theorem conv_rune (r : Nat) (h : r < 128) (w : World) : (convert 21 9 (.int .i32 (r : Int))).run Try.prog w = .ok (.string ⟨#[UInt8.ofNat r]⟩) w := by
  rw [run_convert_int_string w _ _ _ _ (by rw [Try.underlying21]; rfl) Try.underlying9, enc_ascii r h]
theorem app_data (p q : ByteArray) : (p ++ q).data.toList = p.data.toList ++ q.data.toList := by
  rw [ByteArray.data_append, Array.toList_append]
theorem ext_data (s : ByteArray) (i : Nat) : (s.extract i s.size).data.toList = s.data.toList.drop i := by
  rw [ByteArray.data_extract, Array.toList_extract]
  have : s.size = s.data.toList.length := Lib.size_eq s
  rw [List.extract_eq_take_drop, List.take_of_length_le (by rw [List.length_drop]; omega)]
theorem conv_bytes (s : ByteArray) (w : World) : ∃ (W' : World) (c : Nat), (convert 9 34 (.string s)).run Try.prog w = .ok (.slice (some ⟨w.heap.size, 0, none⟩) s.size c) W' ∧ Below w.heap.size w W' ∧
    ∀ k (h : k < s.data.toList.length), W'.cell? ⟨w.heap.size, k, none⟩ = some (.int .u8 ((s.data.toList[k].toNat : Nat) : Int)) := by
  refine ⟨_, _, run_bytes_of_string w 9 34 5 s Try.underlying9 Try.underlying34 Try.underlying5, ?_, fun k h => ?_⟩
  · exact ((Below.refl w.heap.size w).drew).alloc (Nat.le_refl _) _
  · have hb : (w.drew.alloc (.cells (bytesRow s (grownCap w s.size 0 5)) 5 ((bytesRow s (grownCap w s.size 0 5)).size, (bytesRow s (grownCap w s.size 0 5)).size + 1))).heap[w.heap.size]? = some (.cells (bytesRow s (grownCap w s.size 0 5)) 5 ((bytesRow s (grownCap w s.size 0 5)).size, (bytesRow s (grownCap w s.size 0 5)).size + 1)) := by
      show (w.heap.push _)[w.heap.size]? = _
      simp
    simp only [World.cell?, hb]
    have hk : k < s.data.size := by simpa using h
    have hk2 : k < s.size := hk
    simp [bytesRow, Array.getElem?_append, hk2]

def bs (l : List UInt8) : ByteArray := ⟨l.toArray⟩
theorem bs_data (l : List UInt8) : (bs l).data.toList = l := by simp [bs]
theorem bs_eq {s : ByteArray} {l : List UInt8} (h : s.data.toList = l) : s = bs l := bytes_ext.2 (by rw [h, bs_data])
theorem bs_app (a b : List UInt8) : bs a ++ bs b = bs (a ++ b) := bytes_ext.2 (by rw [app_data, bs_data, bs_data, bs_data])
theorem bs_size (l : List UInt8) : (bs l).size = l.length := by rw [Lib.size_eq, bs_data]
theorem empty_no {l : List UInt8} (h : l ≠ []) : (bs l).toList.isEmpty = false := by rw [ByteArray.toList_eq, bs_data]; cases l <;> simp_all
theorem basics_take {X : List Nat} {i : Nat} (h : i < X.length) : Puny.basics (X.take (i + 1)) = Puny.basics (X.take i) ++ (if X[i] < 128 then [X[i]] else []) := by
  unfold Puny.basics
  rw [take_snoc' h, List.filter_append]
  congr 1
  by_cases h1 : X[i] < 128 <;> simp [h1]
/-- the worth of a sign, as the number that it is -/
theorem tl_byte (X : List Nat) {i : Nat} (h : i < (tl X).length) : (97 ≤ ((tl X)[i]).toNat ∧ ((tl X)[i]).toNat ≤ 122) ∨ (48 ≤ ((tl X)[i]).toNat ∧ ((tl X)[i]).toNat ≤ 57) := by
  obtain ⟨d, hd, e⟩ := tl_sign X _ (List.getElem_mem h)
  rw [e, sign_nat hd]
  split <;> omega
end Go.Proofs.Ytcdjjodiiaahfaa
