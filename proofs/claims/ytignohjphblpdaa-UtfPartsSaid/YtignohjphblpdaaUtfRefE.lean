/-
  The contracts of the document's own answer for layer 1: Decode, Valid.
-/
import Derived.Test.YtignohjphblpdaaUtfRefD
import Derived.Deep.RegionWith
import Derived.Deep.RegionHeld3
namespace Go.Proofs.Ytignohjphblpdaa
open Go.RowKit Utf

theorem c3_cells {w : World} {b o : Nat} {l : List T3} {j : Nat} {x : T3} (hc : ∀ k, k < (c3 l).length → w.cell? ⟨b, o + k, none⟩ = (c3 l)[k]?) (hx : l[j]? = some x) :
    w.cell? ⟨b, o + j * 3, none⟩ = some (.int .i32 x.1) ∧ w.cell? ⟨b, o + j * 3 + 1, none⟩ = some (.int .i64 x.2.1) ∧ w.cell? ⟨b, o + j * 3 + 2, none⟩ = some (.int .i64 x.2.2) := by
  have hj : j < l.length := (List.getElem?_eq_some_iff.1 hx).1
  have hv : l[j] = x := (List.getElem?_eq_some_iff.1 hx).2
  obtain ⟨p0, p1, p2⟩ := c3_get l j hj
  rw [hv] at p0 p1 p2
  have q := c3_len l
  exact ⟨(hc _ (by omega)).trans p0, by have := (hc (j * 3 + 1) (by omega)).trans p1; rwa [← Nat.add_assoc] at this, by have := (hc (j * 3 + 2) (by omega)).trans p2; rwa [← Nat.add_assoc] at this⟩

def DecRel (bs : List Int) (w1 : World) (o i : Value) (wr : World) : Prop :=
  ∃ k : Nat, k ≤ (dec bs).length ∧ i = .int .i64 k ∧ wr.ownsRow w1.heap.size 21 1 o k (cl .i32 ((dec bs).take k)) ∧ Below w1.heap.size w1 wr

set_option maxHeartbeats 1000000 in
theorem RDecode_any (bs : List Int) (A : Option Addr) (n c : Nat) (w : World) (hn : bs.length = n) (hcap : n ≤ c) (hm : n ≤ 100000) (hby : Byt bs) (hr : Row w w.heap.size A (cl .u8 bs)) :
    Calls Try.prog 17 #[.slice A n c] w (OutRow (dec bs).length (cl .i32 (dec bs)) w) := by
  obtain ⟨i0, hi, hz0, hz1, hz2⟩ := info_parts info_i32
  have HN := Lib.hid hn
  have HC := Lib.hid (RCodes_any bs A n c w hn hcap hm hby hr)
  have hlen : (codes bs).length ≤ n := by have := codes_len bs; rwa [hn] at this
  clear hn hby hr
  go_enter Try.func17, Try.ntmps17
  go_wp2_with fail
  refine HC.out.mono ?_
  rintro e w1 ⟨A1, d1, rfl, hd1, s1, hB1⟩
  have hld : (dec bs).length = (codes bs).length := by unfold dec; rw [List.length_map]
  obtain ⟨nc, hnc⟩ : ∃ nc, (codes bs).length = nc := ⟨_, rfl⟩
  rw [hnc] at hd1 hlen hld ⊢
  have HNC := Lib.hid hnc
  have HLD := Lib.hid hld
  clear hnc hld
  have hsz1 := hB1.size
  go_wp2
  go_loopw [4, 5] (fun o i wr => DecRel bs w1 o i wr) (fun _ i _ => nc - (intOf i).toNat)
  case atStart => exact ⟨0, Nat.zero_le _, rfl, World.ownsRow_nil _ _ _ _, Below.refl _ _⟩
  case round =>
    obtain ⟨k, hk, rfl, hown, hB⟩ := hrel
    rw [HLD.out] at hk
    by_cases hlt : k < nc
    · have hkl : k < (codes bs).length := by rw [HNC.out]; exact hlt
      obtain ⟨g, o, rfl, hg, hcell⟩ := (s1.below hB).at_ (by rw [c3_len, List.length_map, HNC.out]; omega)
      obtain ⟨x0, _, _⟩ := c3_cells hcell (show ((codes bs).map tri)[k]? = some (tri (codes bs)[k]) by rw [List.getElem?_map, List.getElem?_eq_getElem hkl]; rfl)
      obtain ⟨r, hrr⟩ : ∃ r, (tri (codes bs)[k]).1 = r := ⟨_, rfl⟩
      rw [hrr] at x0
      have HT : Hid (cl .i32 ((dec bs).take (k + 1)) = cl .i32 ((dec bs).take k) ++ [.int .i32 r]) := Lib.hid (by
        have hd : k < (dec bs).length := by rw [HLD.out]; exact hlt
        rw [List.take_succ_eq_append_getElem hd, ← hrr]
        simp [dec, tri])
      have hsz := hB.size
      have HS := Lib.hid s1
      clear hcell s1 hrr
      go_wp2_with (at_builtin; refine wpList_append_own_at _ rfl _ _ 23 rfl w1.heap.size 21 i0 (.int .i32 0) 1 4 Try.underlying23 hi hz0 hz1 hz2 rfl (by decide) _ _ _ rfl (hown.alloc _) ⟨wr.heap.size, 0, none⟩ 1 1 _ rfl (by rfl) (news_new _ _ _ _ rfl) (by simp [Value.oneCell']) (by unfold maxLen; omega) (by omega) (by simp; omega) ?_; intro v' w2 hown2 hgrow2 _ _)
      go_roundw
      case rel => exact ⟨k + 1, by rw [HLD.out]; omega, by go_num, by rw [HT.out]; exact hown2, (hB.alloc hsz _).grown hgrow2 (by simp; omega) (fun j e => (hown.lt j e).1)⟩
      case measure => simp [intOf]; omega
    · obtain rfl : k = nc := by omega
      go_wp2
      go_ret
      rw [List.take_of_length_le (by rw [HLD.out]; omega)] at hown
      obtain ⟨A2, c2, hv, hc2, hr2⟩ := own_form hown
      rw [HLD.out]
      exact ⟨A2, c2, ret_val hv, hc2, hr2, upB hB1 hB⟩

theorem str_eq {a b : List Int} (ha : Byt a) (hb : Byt b) : ((strOfNums a).toList == (strOfNums b).toList) = decide (a = b) := by
  rw [Lib.toList_data, Lib.toList_data]
  by_cases e : a = b
  · subst e
    simp
  · rw [decide_eq_false e, beq_eq_false_iff_ne]
    exact fun h => e (strOf_inj ha hb (by cases h1 : strOfNums a; cases h2 : strOfNums b; rw [h1, h2] at h; simp only [ByteArray.mk.injEq]; exact Array.toList_inj.1 h))

set_option maxHeartbeats 1000000 in
theorem RValid_any (bs : List Int) (A : Option Addr) (n c : Nat) (w : World) (hn : bs.length = n) (hcap : n ≤ c) (hm : n ≤ 10000) (hby : Byt bs) (hr : Row w w.heap.size A (cl .u8 bs)) :
    Calls Try.prog 22 #[.slice A n c] w (IsBool (valid bs) w) := by
  have HN := Lib.hid hn
  have HB := Lib.hid hby
  have HRW := Lib.hid hr
  have cv0 : (convert 22 9 (.slice A n c)).run Try.prog w.drew = .ok (.string (strOfNums bs)) w.drew := conv_row hn hr.drew
  have q1 : (dec bs).length ≤ 10000 := by have := codes_len bs; unfold dec; rw [List.length_map]; omega
  clear hn hby hr
  go_enter Try.func22, Try.ntmps22
  go_wp2_with fail
  go_region_with (first
    | (go_at_call 17; refine (RDecode_any bs _ _ _ _ HN.out hcap (by omega) HB.out HRW.out.drew).mono ?_; rintro e w1 ⟨A1, d1, rfl, hd1, s1, hB1⟩; have r1 := HRW.out.drew.go hB1; have cv1 := conv_row (c := c) HN.out r1)
    | (go_at_call 20; refine (REncode_any (dec bs) _ _ _ _ rfl (by omega) s1).mono ?_; rintro e w2 ⟨A2, d2, rfl, hd2, s2, hB2⟩; have r2 := r1.go hB2; have cv2 := conv_row (c := c) HN.out r2; have cv3 := conv_row (c := d2) rfl s2))
  all_goals go_wp2
  all_goals go_ret
  all_goals refine ⟨ret_bool ?_, upB (show Below w.heap.size w w1 from ⟨hB1.os, hB1.tape, hB1.output, hB1.size, hB1.block⟩) hB2⟩
  all_goals rw [str_eq (enc_byt _) HB.out, enc_dec_iff HB.out]

end Go.Proofs.Ytignohjphblpdaa
