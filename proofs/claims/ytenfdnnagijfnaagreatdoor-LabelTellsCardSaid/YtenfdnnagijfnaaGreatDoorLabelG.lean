/-
  fasciaref07: Code, Is, Check.
-/
import Derived.Test.YtenfdnnagijfnaaGreatDoorLabelF
namespace Go.Proofs.YtenfdnnagijfnaaGreatDoor
open Go.RowKit Norm Remap

set_option maxRecDepth 100000 in
set_option maxHeartbeats 1000000 in
theorem refCode_any (r : Int) (w : World) (h0 : -2147483648 ≤ r ∧ r ≤ 2147483647) : Calls Tryz.prog 26 #[.int .i32 r] w (Tells (.bool (vd r)) w) := by
  have HM := Lib.hid (fun w => refOne_any r w h0)
  rw [← rhow_vd]
  generalize rhow r = y at HM ⊢
  clear h0
  by_cases h : y = 0
  · subst h
    go_enter Tryz.func26, Tryz.ntmps26
    go_wp2_with (first | (go_at_call 50; refine (HM.out _).mono ?_; rintro e w1 ⟨⟨v, rfl⟩, hB1⟩) | fail)
    go_ret
    exact ⟨by first | rfl | simp, hB1⟩
  · go_enter Tryz.func26, Tryz.ntmps26
    go_wp2_with (first | (go_at_call 50; refine (HM.out _).mono ?_; rintro e w1 ⟨⟨v, rfl⟩, hB1⟩) | fail)
    go_ret
    exact ⟨by first | rfl | simp [h], hB1⟩
theorem list_same {a b : List Int} (h : a.length = b.length) (hh : ∀ j, j < a.length → a[j]! = b[j]!) : a = b := by
  refine List.ext_getElem h fun j h1 h2 => ?_
  have := hh j h1
  rwa [getElem!_pos a j h1, getElem!_pos b j h2] at this
set_option maxRecDepth 100000 in
set_option maxHeartbeats 2000000 in
theorem refIs_any (l : List Int) (A : Option Addr) (n c : Nat) (w : World) (hn : l.length = n) (hl : n ≤ 1000) (hC : C32 l) (hr : Row w w.heap.size A (cl .i32 l)) : Calls Tryz.prog 52 #[.slice A n c] w (IsB (decide (nfc l = l)) w) := by
  have HN := Lib.hid hn
  have HF : Hid (Calls Tryz.prog 21 #[.slice A n c] w (MadeV w (nfc l))) := Lib.hid (by subst hn; exact refNFC_any l A c w hl hC hr)
  have hlc := nfc_le hC
  have hld : (nfd l).length ≤ 5000 := by rw [nfd_len]; have := dec_len l; omega
  obtain ⟨R, hR⟩ : ∃ R, nfc l = R := ⟨_, rfl⟩
  rw [hR] at HF hlc ⊢
  obtain ⟨m, hm⟩ : ∃ m, R.length = m := ⟨_, rfl⟩
  unfold MadeV at HF
  rw [hm] at HF hlc
  have HM := Lib.hid hm
  have hm5 : m ≤ 5000 := by omega
  clear hn hC hR hm hlc hld
  by_cases hmn : m = n
  · subst hmn
    go_enter Tryz.func52, Tryz.ntmps52
    go_wp2_with (first | (go_at_call 21; refine HF.out.mono ?_; rintro e w1 ⟨A1, c1, rfl, ho1, hB1⟩) | fail)
    have hr1 := Row.of_own ho1
    have hr2 := hr.up hB1
    go_loopg [4] m (fun q s4 wr => ∃ k : Nat, s4 = .int .i64 (k : Int) ∧ q = m - k ∧ k ≤ m ∧ Hid (∀ j, j < k → R[j]! = l[j]!) ∧ Below w1.heap.size w1 wr)
    case atStart => exact ⟨0, rfl, rfl, Nat.zero_le _, Lib.hid (fun j hj => by omega), Below.refl _ _⟩
    case round =>
      obtain ⟨k, rfl, rfl, hk, HNo, hB⟩ := hrel
      by_cases hlt : k < m
      · have hltz : (k : Int) < (m : Int) := by omega
        obtain ⟨b1, o1, rfl, hb1, hc1⟩ := (hr1.up hB).at_ (by have := HM.out; simp; omega)
        obtain ⟨b2, o2, rfl, hb2, hc2⟩ := (hr2.up hB).at_ (by have := HN.out; simp; omega)
        have c1 := row_cell hc1 k (by rw [HM.out]; exact hlt)
        have c2 := row_cell hc2 k (by rw [HN.out]; exact hlt)
        obtain ⟨x, hx⟩ : ∃ x, R[k]! = x := ⟨_, rfl⟩
        obtain ⟨y, hy⟩ : ∃ y, l[k]! = y := ⟨_, rfl⟩
        rw [hx] at c1
        rw [hy] at c2
        have HX : Hid (R[k]! = x ∧ l[k]! = y) := Lib.hid ⟨hx, hy⟩
        have hk0 : (0 : Int) ≤ (k : Int) := by omega
        clear hc1 hc2 hx hy HF
        by_cases hxy : x = y
        · subst hxy
          go_upto_region 7 with fail
          go_quiet (fail)
          go_wp2_with fail
          go_roundg (m - (k + 1))
          case measure => omega
          case rel =>
            refine ⟨k + 1, by go_num, rfl, by omega, Lib.hid (fun j hj => ?_), by first | exact hB | exact hB.drew | exact hB.trans (by first | exact Below.refl _ _ | exact ⟨rfl, rfl, rfl, Nat.le_refl _, fun _ _ => rfl⟩)⟩
            by_cases hjk : j = k
            · subst hjk; rw [HX.out.1, HX.out.2]
            · exact HNo.out j (by omega)
        · have HQ : Hid (decide (R = l) = false) := Lib.hid (decide_eq_false fun h => hxy (by rw [← HX.out.1, ← HX.out.2, h]))
          have hxyb : (x == y) = false := by simpa using hxy
          go_upto_region 7 with fail
          go_quiet (fail)
          go_wp2_with fail
          go_ret
          exact ⟨by rw [HQ.out]; rfl, upB hB1 (by first | exact hB | exact hB.drew | exact hB.trans (by first | exact Below.refl _ _ | exact ⟨rfl, rfl, rfl, Nat.le_refl _, fun _ _ => rfl⟩))⟩
      · obtain rfl : k = m := by omega
        have hltz : ¬ ((k : Nat) : Int) < (k : Int) := by omega
        have HQ : Hid (decide (R = l) = true) := Lib.hid (decide_eq_true (list_same (by rw [HM.out, HN.out]) (fun j hj => HNo.out j (by rw [HM.out] at hj; exact hj))))
        go_wp2_with fail
        go_ret
        exact ⟨by rw [HQ.out]; rfl, upB hB1 hB⟩
  · have hz : ¬ (m : Int) = (n : Int) := by omega
    have hzb : ((m : Int) == (n : Int)) = false := beq_eq_false_iff_ne.2 hz
    have HQ : Hid (decide (R = l) = false) := Lib.hid (decide_eq_false fun h => hmn (by rw [← HM.out, ← HN.out, h]))
    go_enter Tryz.func52, Tryz.ntmps52
    go_wp2_with (first | (go_at_call 21; refine HF.out.mono ?_; rintro e w1 ⟨A1, c1, rfl, ho1, hB1⟩) | fail)
    go_ret
    exact ⟨by rw [HQ.out]; rfl, hB1⟩
theorem chkL {l : List Int} {ed : Bool} (h0 : vio l 0 = false) : chk l ed = if vio l 1 = true then 1 else if (ed && vio l 2) = true then 2 else if (ed && vio l 3) = true then 3 else if vio l 4 = true then 6 else if vio l 5 = true then 4 else if vio l 6 = true then 5 else 0 := by
  rw [chk_eq, h0]
  simp
end Go.Proofs.YtenfdnnagijfnaaGreatDoor
