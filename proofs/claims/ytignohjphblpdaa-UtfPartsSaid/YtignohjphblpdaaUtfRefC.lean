/-
  The contracts of the document's own answer for layer 1: goes, Bytes, Encode.
-/
import Derived.Test.YtignohjphblpdaaUtfRefB
import Derived.Test.YtignohjphblpdaaAppendRow
namespace Go.Proofs.Ytignohjphblpdaa
open Go.RowKit Utf

set_option maxHeartbeats 1000000 in
theorem goes_any (bs : List Int) (A : Option Addr) (n c : Nat) (w : World) (hn : bs.length = n) (hm : n ≤ 100000) (hby : Byt bs) (hr : Row w w.heap.size A (cl .u8 bs)) :
    Calls Try.prog 24 #[.slice A n c] w (IsVal (.bool (goesM bs)) w) := by
  cases bs with
  | nil =>
    have q0 : ((n : Int) == 0) = true := by simp at hn ⊢; omega
    clear hn hr hby
    go_enter Try.func24, Try.ntmps24
    go_wp2
    go_ret
    exact ⟨rfl, rfl⟩
  | cons c0 t =>
    have h1 : 1 ≤ n := by simp at hn; omega
    obtain ⟨b, off, rfl, hbl, hc⟩ := hr.at_ (by simp)
    have hc0 := hc 0 (by simp)
    rw [cl_get _ _ _ (by simp), Nat.add_zero] at hc0
    simp only [List.getElem_cons_zero] at hc0
    have hb := hby c0 (by simp)
    have hm4 : lng c0 ≤ 4 := by unfold lng; (repeat' split) <;> omega
    have hlg := long_any c0 w hb.1 hb.2
    have htl := tails_any (c0 :: t) _ n c w hn hm hr
    obtain ⟨m, hL⟩ : ∃ m, lng c0 = m := ⟨_, rfl⟩
    rw [hL] at hm4 hlg
    by_cases hm0 : m = 0
    · have HG : Hid (goesM (c0 :: t) = false) := Lib.hid (by subst hm0; simp [goesM, hL])
      have q0 : ((n : Int) == 0) = false := by simp; omega
      have q1 : ((m : Int) == 0) = true := by simp; omega
      have HL := Lib.hid hlg
      clear hn hr hby hlg htl hL hm0 hc
      go_enter Try.func24, Try.ntmps24
      go_wp2_with fail
      refine HL.out.mono ?_
      rintro e w' ⟨rfl, rfl⟩
      go_wp2
      go_ret
      exact ⟨ret_bool HG.out.symm, rfl⟩
    by_cases hnm : m < n
    · have HG : Hid (goesM (c0 :: t) = false) := Lib.hid (by
        have : lng c0 < (c0 :: t).length := by rw [hn, hL]; exact hnm
        simp only [goesM, decide_eq_true this, Bool.or_true, Bool.true_or, Bool.not_true, Bool.false_and])
      have q0 : ((n : Int) == 0) = false := by simp; omega
      have q1 : ((m : Int) == 0) = false := by simp; omega
      have HL := Lib.hid hlg
      clear hn hr hby hlg htl hL hm0 hc
      go_enter Try.func24, Try.ntmps24
      go_wp2_with fail
      refine HL.out.mono ?_
      rintro e w' ⟨rfl, rfl⟩
      go_wp2
      go_ret
      exact ⟨ret_bool HG.out.symm, rfl⟩
    cases ht : tailsM (c0 :: t) with
    | false =>
      have HG : Hid (goesM (c0 :: t) = false) := Lib.hid (by simp [goesM, ht])
      rw [ht] at htl
      have q0 : ((n : Int) == 0) = false := by simp; omega
      have q1 : ((m : Int) == 0) = false := by simp; omega
      have HL := Lib.hid hlg
      have HT := Lib.hid htl
      clear hn hr hby hlg htl hL hm0 hc ht
      go_enter Try.func24, Try.ntmps24
      go_wp2_with fail
      refine HL.out.mono ?_
      rintro e w' ⟨rfl, rfl⟩
      go_wp2_with fail
      refine HT.out.mono ?_
      rintro e w' ⟨rfl, rfl⟩
      go_wp2
      go_ret
      exact ⟨ret_bool HG.out.symm, rfl⟩
    | true =>
      exact goes_last (c0 :: t) b off n c m c0 _ _ w _ hn h1 hm hby hr hc0 hb.1 hb.2 hL (by omega) hm4 (by omega) ht rfl rfl _ _ rfl rfl
        (goes_unfold hL hm0 (by omega) ht rfl rfl)

set_option maxHeartbeats 1000000 in
theorem Bytes_any (r : Int) (w : World) (h0 : 0 ≤ r) (h1 : r ≤ 1114111) : Calls Try.prog 28 #[.int .i32 r] w (OutRow (b1 r).length (cl .u8 (b1 r)) w) := by
  by_cases a1 : r ≤ 127
  · have HB := Lib.hid (b1_1 a1)
    go_enter Try.func28, Try.ntmps28
    go_wp2
    go_ret
    rw [HB.out]
    exact ⟨_, 1, rfl, by simp, row_new' w _ _ _ rfl, (Below.refl _ _).alloc (Nat.le_refl _) _⟩
  by_cases a2 : r ≤ 2047
  · have HB := Lib.hid (b1_2 (r := r) (by omega) a2)
    go_enter Try.func28, Try.ntmps28
    go_wp2
    go_ret
    rw [HB.out]
    exact ⟨_, 2, rfl, by simp, row_new' w _ _ _ rfl, (Below.refl _ _).alloc (Nat.le_refl _) _⟩
  by_cases a3 : r ≤ 65535
  · have HB := Lib.hid (b1_3 (r := r) (by omega) a3)
    go_enter Try.func28, Try.ntmps28
    go_wp2
    go_ret
    rw [HB.out]
    exact ⟨_, 3, rfl, by simp, row_new' w _ _ _ rfl, (Below.refl _ _).alloc (Nat.le_refl _) _⟩
  · have HB := Lib.hid (b1_4 (r := r) (by omega))
    go_enter Try.func28, Try.ntmps28
    go_wp2
    go_ret
    rw [HB.out]
    exact ⟨_, 4, rfl, by simp, row_new' w _ _ _ rfl, (Below.refl _ _).alloc (Nat.le_refl _) _⟩

set_option maxHeartbeats 1000000 in
theorem REncode_any (l : List Int) (A : Option Addr) (n c : Nat) (w : World) (hn : l.length = n) (hm : n ≤ 100000) (hr : Row w w.heap.size A (cl .i32 l)) :
    Calls Try.prog 20 #[.slice A n c] w (OutRow (enc l).length (cl .u8 (enc l)) w) := by
  obtain ⟨i0, hi, hz0, hz1, hz2⟩ := info_parts info_u8
  have HN := Lib.hid hn
  clear hn
  go_enter Try.func20, Try.ntmps20
  go_wp2
  go_loopw [3, 4] (fun o i wr => EncRel l w o i wr) (fun _ i _ => n - (intOf i).toNat)
  case atStart => exact ⟨0, Nat.zero_le _, rfl, World.ownsRow_nil _ _ _ _, Below.refl _ _⟩
  case round =>
    obtain ⟨k, hk, rfl, hown, hB⟩ := hrel
    rw [HN.out] at hk
    by_cases hlt : k < n
    · have hkl : k < l.length := by rw [HN.out]; exact hlt
      obtain ⟨b, off, rfl, hb, hc⟩ := (hr.below hB).at_ (by simp; omega)
      have hcell := hc k (by simp; omega)
      rw [cl_get _ _ _ hkl] at hcell
      have hle := enc_take_le l k
      have hsz := hB.size
      obtain ⟨r, hrr⟩ : ∃ r, l[k] = r := ⟨_, rfl⟩
      rw [hrr] at hcell
      have HE : Hid (enc (l.take (k + 1)) = enc (l.take k) ++ b1 (fixR r)) := Lib.hid (by rw [enc_take_succ l k hkl, hrr]; rfl)
      have hbl := b1_len (fixR r)
      have HR := Lib.hid hr
      clear hc hr hrr
      have hfr := fix_range r
      cases hs : sca r with
      | true =>
        have HS := Lib.hid hs
        rw [fix_of_sca hs] at HE hbl hfr
        clear hs
        go_wp2_with fail
        refine (RScalar_is _ HS.out).mono ?_
        rintro e w' ⟨rfl, rfl⟩
        go_wp2_with fail
        refine (Bytes_any r _ hfr.1 hfr.2).mono ?_
        rintro e w1 ⟨A1, c1, rfl, hc1, hr1, hB1⟩
        have hown1 := own_below hown hB1
        have hBw := hB.trans (hB1.mono hsz)
        have hsw := hBw.size
        clear hown hB1 hB
        go_wp2_with (at_builtin; refine wpList_append_row _ rfl _ _ 22 rfl w.heap.size 5 i0 (.int .u8 0) 1 1 Try.underlying22 hi hz0 hz1 hz2 rfl (by decide) _ _ _ rfl hown1 _ _ _ _ _ rfl (by simp) hr1 (one_cl _ _) (by unfold maxLen; omega) (by omega) (by omega) ?_; intro v' w2 hown2 hgrow2)
        go_roundw
        case rel => exact ⟨k + 1, by omega, by go_num, by rw [HE.out, List.length_append]; simpa using hown2, hBw.grown hgrow2 hsw (fun j e => (hown1.lt j e).1)⟩
        case measure => simp [intOf]; omega
      | false =>
        have HS := Lib.hid hs
        rw [show fixR r = 65533 by simp [fixR, hs]] at HE hbl hfr
        clear hs
        go_wp2_with fail
        refine (RScalar_is _ HS.out).mono ?_
        rintro e w' ⟨rfl, rfl⟩
        go_wp2_with fail
        refine (Bytes_any 65533 _ hfr.1 hfr.2).mono ?_
        rintro e w1 ⟨A1, c1, rfl, hc1, hr1, hB1⟩
        have hown1 := own_below hown hB1
        have hBw := hB.trans (hB1.mono hsz)
        have hsw := hBw.size
        clear hown hB1 hB
        go_wp2_with (at_builtin; refine wpList_append_row _ rfl _ _ 22 rfl w.heap.size 5 i0 (.int .u8 0) 1 1 Try.underlying22 hi hz0 hz1 hz2 rfl (by decide) _ _ _ rfl hown1 _ _ _ _ _ rfl (by simp) hr1 (one_cl _ _) (by unfold maxLen; omega) (by omega) (by omega) ?_; intro v' w2 hown2 hgrow2)
        go_roundw
        case rel => exact ⟨k + 1, by omega, by go_num, by rw [HE.out, List.length_append]; simpa using hown2, hBw.grown hgrow2 hsw (fun j e => (hown1.lt j e).1)⟩
        case measure => simp [intOf]; omega
    · obtain rfl : k = n := by omega
      go_wp2
      go_ret
      rw [List.take_of_length_le (by rw [HN.out]; omega)] at hown
      obtain ⟨A1, c1, hv, hc1, hr1⟩ := own_form hown
      exact ⟨A1, c1, ret_val hv, hc1, hr1, hB⟩

end Go.Proofs.Ytignohjphblpdaa
