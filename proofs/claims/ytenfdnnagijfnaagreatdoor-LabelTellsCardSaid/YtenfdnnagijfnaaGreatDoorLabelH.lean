/-
  fasciaref07: Check.
-/
import Derived.Test.YtenfdnnagijfnaaGreatDoorLabelG
namespace Go.Proofs.YtenfdnnagijfnaaGreatDoor
open Go.RowKit Norm Remap

set_option maxRecDepth 100000 in
set_option maxHeartbeats 8000000 in
theorem refCheck_any (l : List Int) (ed : Bool) (A : Option Addr) (n c : Nat) (w : World) (hn : l.length = n) (hl : n ≤ 1000) (hC : C32 l) (hr : Row w w.heap.size A (cl .i32 l)) : Calls Tryz.prog 28 #[.slice A n c, .bool ed] w (Tells (.int .u8 (chk l ed)) w) := by
  have HN := Lib.hid hn
  have HC := Lib.hid hC
  have HI := Lib.hid (refIs_any l A n c w hn hl hC hr)
  clear hC
  by_cases hz : n = 0
  · have HCH : Hid (chk l ed = 15) := Lib.hid (by rw [chk_eq, vio0, HN.out, decide_eq_true hz]; rfl)
    subst hz
    clear hr HI hn
    go_enter Tryz.func28, Tryz.ntmps28
    go_wp2_with fail
    go_ret
    exact ⟨by rw [HCH.out]; rfl, Below.refl _ _⟩
  · have hn0 : 0 < n := by omega
    have hz2 : ¬ (n : Int) = 0 := by omega
    have hz2b : ((n : Int) == 0) = false := beq_eq_false_iff_ne.2 hz2
    have H0 : Hid (vio l 0 = false) := Lib.hid (by rw [vio0, HN.out]; exact decide_eq_false hz)
    have HV1 := Lib.hid (vio1 l)
    obtain ⟨q, hq⟩ : ∃ q, decide (nfc l = l) = q := ⟨_, rfl⟩
    rw [hq] at HI HV1
    clear hq hz hn
    cases q with
    | false =>
      have HCH : Hid (chk l ed = 1) := Lib.hid (by rw [chkL H0.out, if_pos (show vio l 1 = true from HV1.out)])
      clear hr
      go_enter Tryz.func28, Tryz.ntmps28
      go_wp2_with (first | (go_at_call 52; refine HI.out.mono ?_; rintro e w1 ⟨rfl, hB1⟩) | fail)
      go_ret
      exact ⟨by rw [HCH.out]; rfl, hB1⟩
    | true =>
      have H1 : Hid (vio l 1 = false) := HV1
      clear HV1
      obtain ⟨b, o, rfl, hb, hcc⟩ := hr.at_ (by have := HN.out; simp; omega)
      have HCL := Lib.hid (fun k hk => row_cell hcc k hk)
      clear hcc
      go_enter Tryz.func28, Tryz.ntmps28
      go_upto_region 5 with (first | (go_at_call 52; refine HI.out.mono ?_; rintro e wE ⟨rfl, hB1⟩) | fail)
      have hrE := hr.up hB1
      have hWE : Below w.heap.size w wE := hB1
      have HCE : Hid (∀ k, k < l.length → wE.cell? ⟨b, o + k, none⟩ = some (.int .i32 l[k]!)) := Lib.hid (fun k hk => (hB1.cell (p := ⟨b, o + k, none⟩) hb).trans (HCL.out k hk))
      clear HI hr hB1 HCL hb
      go_cut [30] (fun s30 wx => s30 = .bool (ed && vio l 2) ∧ wx = wE)
      case first =>
        have e2 := vio2 l
        rw [HN.out] at e2
        cases ed with
        | false =>
          go_wp2_with fail
          go_meet
          exact ⟨by first | rfl | simp, rfl⟩
        | true =>
          by_cases h4 : 4 ≤ n
          · have c2 := HCE.out 2 (by rw [HN.out]; omega)
            have c3 := HCE.out 3 (by rw [HN.out]; omega)
            obtain ⟨x, hx'⟩ : ∃ x, l[2]! = x := ⟨_, rfl⟩
            obtain ⟨y, hy'⟩ : ∃ y, l[3]! = y := ⟨_, rfl⟩
            rw [hx'] at c2 e2
            rw [hy'] at c3 e2
            have HE := Lib.hid e2
            have z2 : (2 : Int) < (n : Int) := by omega
            have z3 : (3 : Int) < (n : Int) := by omega
            clear e2 hx' hy'
            by_cases hx : x = 45
            · subst hx
              go_wp2_with fail
              go_meet
              exact ⟨by rw [HE.out, decide_eq_true h4]; first | rfl | simp, rfl⟩
            · have hxb : (x == 45) = false := by simpa using hx
              go_wp2_with fail
              go_meet
              exact ⟨by rw [HE.out, decide_eq_false hx]; first | rfl | simp, rfl⟩
          · have z3 : ¬ (3 : Int) < (n : Int) := by omega
            have HE := Lib.hid e2
            clear e2
            go_wp2_with fail
            go_meet
            exact ⟨by rw [HE.out, decide_eq_false h4]; first | rfl | simp, rfl⟩
      case rest =>
        obtain ⟨rfl, hwc⟩ := hcut
        rw [hwc]
        clear hwc
        obtain ⟨b2, hb2⟩ : ∃ b2, (ed && vio l 2) = b2 := ⟨_, rfl⟩
        have HB2 := Lib.hid hb2
        rw [hb2]
        clear hb2
        cases b2 with
        | true =>
          have HCH : Hid (chk l ed = 2) := Lib.hid (by rw [chkL H0.out, if_neg (by rw [H1.out]; simp), if_pos HB2.out])
          go_wp2_with fail
          go_ret
          exact ⟨by rw [HCH.out]; rfl, hWE⟩
        | false =>
          have H2 : Hid ((ed && vio l 2) = false) := HB2
          clear HB2
          go_upto_region 7 with fail
          go_cut [46] (fun s46 wx => s46 = .bool (ed && vio l 3) ∧ wx = wE)
          case first =>
            have e3 := vio3 l
            rw [HN.out] at e3
            cases ed with
            | false =>
              go_wp2_with fail
              go_meet
              exact ⟨by first | rfl | simp, rfl⟩
            | true =>
              have c0 := HCE.out 0 (by rw [HN.out]; omega)
              have c1 := HCE.out (n - 1) (by rw [HN.out]; omega)
              rw [Nat.add_zero] at c0
              obtain ⟨x, hx'⟩ : ∃ x, l[0]! = x := ⟨_, rfl⟩
              obtain ⟨y, hy'⟩ : ∃ y, l[n - 1]! = y := ⟨_, rfl⟩
              rw [hx'] at c0 e3
              rw [hy'] at c1 e3
              have HE := Lib.hid e3
              obtain ⟨p, hp⟩ : ∃ p, n - 1 = p := ⟨_, rfl⟩
              rw [hp] at c1
              have hsub : (n : Int) - 1 = (p : Int) := by omega
              have hwp : IntKind.i64.wrap (p : Int) = (p : Int) := IntWalk.i64_in _ (by omega)
              have z0 : (0 : Int) < (n : Int) := by omega
              have z1 : (p : Int) < (n : Int) := by omega
              have z2 : (0 : Int) ≤ (p : Int) := by omega
              clear hp e3 hx' hy'
              by_cases hx : x = 45
              · subst hx
                go_wp2_with fail
                go_meet
                exact ⟨by rw [HE.out]; first | rfl | simp, rfl⟩
              · have hxb : (x == 45) = false := by simpa using hx
                go_wp2_with fail
                go_meet
                exact ⟨by rw [HE.out, decide_eq_false hx]; first | rfl | simp, rfl⟩
          case rest =>
            obtain ⟨rfl, hwc⟩ := hcut
            rw [hwc]
            clear hwc
            obtain ⟨b3, hb3⟩ : ∃ b3, (ed && vio l 3) = b3 := ⟨_, rfl⟩
            have HB3 := Lib.hid hb3
            rw [hb3]
            clear hb3
            cases b3 with
            | true =>
              have HCH : Hid (chk l ed = 3) := Lib.hid (by rw [chkL H0.out, if_neg (by rw [H1.out]; simp), if_neg (by rw [H2.out]; simp), if_pos HB3.out])
              go_wp2_with fail
              go_ret
              exact ⟨by rw [HCH.out]; rfl, hWE⟩
            | false =>
              have H3 : Hid ((ed && vio l 3) = false) := HB3
              clear HB3 HCE
              go_wp2_with fail
              go_loopg [5] n (fun m s5 wr => ∃ k : Nat, s5 = .int .i64 (k : Int) ∧ m = n - k ∧ k ≤ n ∧ Hid (∀ j, j < k → l[j]! ≠ 46) ∧ wr = wE)
              case atStart => exact ⟨0, rfl, rfl, Nat.zero_le _, Lib.hid (fun j hj => by omega), rfl⟩
              case round =>
                obtain ⟨k, rfl, rfl, hk, HNo, rfl⟩ := hrel
                by_cases hlt : k < n
                · have hltz : (k : Int) < (n : Int) := by omega
                  obtain ⟨b', o', hA', hb', hcc⟩ := hrE.at_ (by have := HN.out; simp; omega)
                  obtain ⟨rfl, rfl⟩ : b = b' ∧ o = o' := by simpa using hA'
                  clear hA'
                  have c0 := row_cell hcc k (by rw [HN.out]; exact hlt)
                  have hm := mems (l := l) (i := k) (by rw [HN.out]; exact hlt)
                  obtain ⟨y, hy⟩ : ∃ y, l[k]! = y := ⟨_, rfl⟩
                  rw [hy] at c0 hm
                  have HY := Lib.hid hy
                  have HM := Lib.hid hm
                  clear hcc hy hm
                  by_cases h : y = 46
                  · have H4 : Hid (vio l 4 = true) := Lib.hid (by rw [vio4]; exact decide_eq_true (by rw [← h]; exact HM.out))
                    have HCH : Hid (chk l ed = 6) := Lib.hid (by rw [chkL H0.out, if_neg (by rw [H1.out]; simp), if_neg (by rw [H2.out]; simp), if_neg (by rw [H3.out]; simp), if_pos H4.out])
                    subst h
                    go_wp2_with fail
                    go_ret
                    exact ⟨by rw [HCH.out]; rfl, hWE⟩
                  · have hb2 : (y == 46) = false := by simpa using h
                    go_wp2_with fail
                    go_roundg (n - (k + 1))
                    case measure => omega
                    case rel =>
                      refine ⟨k + 1, by go_num, rfl, by omega, Lib.hid (fun j hj => ?_), rfl⟩
                      by_cases hjk : j = k
                      · subst hjk; rw [HY.out]; exact h
                      · exact HNo.out j (by omega)
                · obtain rfl : k = n := by omega
                  have hltz : ¬ ((k : Nat) : Int) < (k : Int) := by omega
                  have H4 : Hid (vio l 4 = false) := Lib.hid (by
                    rw [vio4]
                    refine decide_eq_false fun h => ?_
                    obtain ⟨j, hj, e⟩ := List.getElem_of_mem h
                    refine HNo.out j (by have := HN.out; omega) ?_
                    rw [getElem!_pos l j hj]
                    exact e)
                  obtain ⟨b', o', hA', hb', hcc⟩ := hrE.at_ (by have := HN.out; simp; omega)
                  obtain ⟨rfl, rfl⟩ : b = b' ∧ o = o' := by simpa using hA'
                  clear hA'
                  have c0 := row_cell hcc 0 (by rw [HN.out]; exact hn0)
                  rw [Nat.add_zero] at c0
                  have hx32 := HC.out _ (mems (l := l) (i := 0) (by rw [HN.out]; exact hn0))
                  have HV5 := Lib.hid (vio5 l)
                  obtain ⟨x, hx⟩ : ∃ x, l[0]! = x := ⟨_, rfl⟩
                  rw [hx] at c0 hx32 HV5
                  have HRO := Lib.hid (fun w => RefOf_any x w hx32.1 hx32.2)
                  have HRC : ∀ (p : List Int) w, (Instr.field 32 (pv p) 0).run Tryz.prog w = .ok (.int .u8 (Ucd.g p 0)) w := fun p w => by kernel_rfl
                  have HR := HRC (Ucd.of x)
                  generalize Ucd.of x = p at HRO HR HV5
                  obtain ⟨y, hy⟩ : ∃ y, Ucd.g p 0 = y := ⟨_, rfl⟩
                  rw [hy] at HR HV5
                  have b0 : (0 : Int) < (k : Int) := by omega
                  clear hcc hx hy hx32 HRC HNo
                  by_cases h4 : y = 4
                  · have HCH : Hid (chk l ed = 4) := Lib.hid (by rw [chkL H0.out, if_neg (by rw [H1.out]; simp), if_neg (by rw [H2.out]; simp), if_neg (by rw [H3.out]; simp), if_neg (by rw [H4.out]; simp), if_pos (by rw [HV5.out]; exact decide_eq_true h4)])
                    subst h4
                    clear HV5
                    go_wp2_with (first | (go_at_call 53; refine (HRO.out _).mono ?_; rintro e w3 ⟨rfl, hB3⟩) | fail)
                    go_ret
                    exact ⟨by rw [HCH.out]; rfl, upB hWE hB3⟩
                  · have h4b : (y == 4) = false := by simpa using h4
                    have H5 : Hid (vio l 5 = false) := Lib.hid (by rw [HV5.out]; exact decide_eq_false h4)
                    clear HV5
                    go_wp2_with (first | (go_at_call 53; refine (HRO.out _).mono ?_; rintro e w3 ⟨rfl, hB3⟩) | fail)
                    have hr3 := hrE.up hB3
                    have hW3 := upB hWE hB3
                    clear HRO HR c0 hrE
                    go_loopg [6] k (fun m s6 wr => ∃ j : Nat, s6 = .int .i64 (j : Int) ∧ m = k - j ∧ j ≤ k ∧ Hid (∀ q, q < j → vd l[q]! = true) ∧ Below w3.heap.size w3 wr)
                    case atStart => exact ⟨0, rfl, rfl, Nat.zero_le _, Lib.hid (fun j hj => by omega), Below.refl _ _⟩
                    case round =>
                      obtain ⟨j, rfl, rfl, hj, HNo, hB⟩ := hrel
                      by_cases hlt2 : j < k
                      · have hltz2 : (j : Int) < (k : Int) := by omega
                        have hr4 := hr3.below hB
                        obtain ⟨b2, o2, hA2, hb2, hcc⟩ := hr4.at_ (by have := HN.out; simp; omega)
                        obtain ⟨rfl, rfl⟩ : b = b2 ∧ o = o2 := by simpa using hA2
                        clear hA2
                        have c0 := row_cell hcc j (by rw [HN.out]; exact hlt2)
                        have hm := mems (l := l) (i := j) (by rw [HN.out]; exact hlt2)
                        have hz32 := HC.out _ hm
                        obtain ⟨z, hz⟩ : ∃ z, l[j]! = z := ⟨_, rfl⟩
                        rw [hz] at c0 hm hz32
                        have HZ := Lib.hid hz
                        have HM := Lib.hid hm
                        have HCD := Lib.hid (fun w => refCode_any z w hz32)
                        obtain ⟨v, hv⟩ : ∃ v, vd z = v := ⟨_, rfl⟩
                        rw [hv] at HCD
                        have HVD := Lib.hid hv
                        clear hcc hz hm hv hz32
                        cases v with
                        | false =>
                          have H6 : Hid (vio l 6 = true) := Lib.hid (by rw [vio6]; exact List.any_eq_true.2 ⟨z, HM.out, by rw [HVD.out]; rfl⟩)
                          have HCH : Hid (chk l ed = 5) := Lib.hid (by rw [chkL H0.out, if_neg (by rw [H1.out]; simp), if_neg (by rw [H2.out]; simp), if_neg (by rw [H3.out]; simp), if_neg (by rw [H4.out]; simp), if_neg (by rw [H5.out]; simp), if_pos H6.out])
                          go_wp2_with (first | (go_at_call 26; refine (HCD.out _).mono ?_; rintro e w4 ⟨rfl, hB4⟩) | fail)
                          go_ret
                          exact ⟨by rw [HCH.out]; rfl, upB hW3 (upB hB (hB4.mono (Nat.le_refl _)))⟩
                        | true =>
                          go_wp2_with (first | (go_at_call 26; refine (HCD.out _).mono ?_; rintro e w4 ⟨rfl, hB4⟩) | fail)
                          go_roundg (k - (j + 1))
                          case measure => omega
                          case rel =>
                            refine ⟨j + 1, by go_num, rfl, by omega, Lib.hid (fun q hq => ?_), upB hB hB4⟩
                            by_cases hqj : q = j
                            · subst hqj; rw [HZ.out]; exact HVD.out
                            · exact HNo.out q (by omega)
                      · obtain rfl : j = k := by omega
                        have hltz2 : ¬ ((j : Nat) : Int) < (j : Int) := by omega
                        have H6 : Hid (vio l 6 = false) := Lib.hid (by
                          rw [vio6, List.any_eq_false]
                          intro z h
                          obtain ⟨q, hq, e⟩ := List.getElem_of_mem h
                          have := HNo.out q (by have := HN.out; omega)
                          rw [getElem!_pos l q hq, e] at this
                          rw [this]
                          simp)
                        have HCH : Hid (chk l ed = 0) := Lib.hid (by rw [chkL H0.out, if_neg (by rw [H1.out]; simp), if_neg (by rw [H2.out]; simp), if_neg (by rw [H3.out]; simp), if_neg (by rw [H4.out]; simp), if_neg (by rw [H5.out]; simp), if_neg (by rw [H6.out]; simp)])
                        go_wp2_with fail
                        go_ret
                        exact ⟨by rw [HCH.out]; rfl, upB hW3 hB⟩
end Go.Proofs.YtenfdnnagijfnaaGreatDoor
