/-
  The general sort: partialInsertionSort at []rune.
-/
import Derived.Test.YtcdjjodiiaahfaaSortE
namespace Go.Proofs.Ytcdjjodiiaahfaa
open Go.RowKit Puny Go.Shelf Go.Sort

def PartIns (base g cap : Nat) (R : Array Nat × Bool) (w : World) (e : Ending) (w' : World) : Prop := ∃ r d', R = (d', r) ∧ e = .returned (.bool r) ∧ SW base g cap w d' w'
theorem shiftDown_size : ∀ (j : Nat) (d : Array Nat), (shiftDown ltN j d).size = d.size
  | 0, _ => rfl
  | j + 1, d => by
    cases h : ltN d[j + 1]! d[j]! with
    | true => rw [sdn_go h, shiftDown_size j, size_swp]
    | false => rw [sdn_end h]
theorem shiftUp_size (b : Nat) : ∀ (n j : Nat) (d : Array Nat), b - j ≤ n → (shiftUp ltN b j d).size = d.size := by
  intro n
  induction n with
  | zero => intro j d h; rw [sup_end (fun h2 => by omega)]
  | succ n ih =>
    intro j d h
    by_cases h1 : j < b
    · cases h2 : ltN d[j]! d[j - 1]! with
      | true => rw [sup_go h1 h2, ih _ _ (by omega), size_swp]
      | false => rw [sup_end (fun _ => h2)]
    · rw [sup_end (fun h2 => absurd h2 h1)]
theorem fixDown_size (a i : Nat) (d : Array Nat) : (fixDown ltN a i d).size = d.size := by
  unfold fixDown; split
  · exact shiftDown_size _ _
  · rfl
theorem fixUp_size (b i : Nat) (d : Array Nat) : (fixUp ltN b i d).size = d.size := by
  unfold fixUp; split
  · exact shiftUp_size b _ _ _ (Nat.le_refl _)
  · rfl

set_option maxRecDepth 100000 in
set_option maxHeartbeats 4000000 in
theorem partialInsertionSort_walk (base g cap a b : Nat) (d : Array Nat) (w : World) (hw : OW base g cap d w) (hab : a < b) (hb : b ≤ d.size) (hsz : d.size ≤ 1000000) :
    Calls Try.prog 72 #[.slice (some ⟨g, 0, none⟩) d.size cap, .int .i64 a, .int .i64 b] w (PartIns base g cap (partialInsertionSort ltN d a b) w) := by
  obtain ⟨R, hR⟩ : ∃ R, partialInsertionSort ltN d a b = R := ⟨_, rfl⟩
  have HR : Hid (partialIns ltN a b 5 (a + 1) d = R) := Lib.hid hR
  rw [hR]
  clear hR
  go_enter Try.func72, Try.ntmps72
  go_wp2
  go_loopg [7, 8] 5 (fun k s7 s8 wr => ∃ (i j : Nat) (dk : Array Nat), s7 = .int .i64 i ∧ s8 = .int .i64 j ∧ j + k = 5 ∧ a + 1 ≤ i ∧ i ≤ b ∧ Hid (dk.size = d.size) ∧ SW base g cap w dk wr ∧ Hid (partialIns ltN a b k i dk = R))
  case atStart => exact ⟨a + 1, 0, d, by go_num, rfl, rfl, Nat.le_refl _, hab, Lib.hid rfl, SW.refl hw, HR⟩
  case round =>
    clear HR
    obtain ⟨i, j, dk, rfl, rfl, hjk, hi1, hi2, HDk, hS, HE⟩ := hrel
    rcases gk with _ | k
    · obtain rfl : j = 5 := by omega
      go_wp2
      go_ret
      exact ⟨false, dk, HE.out.symm, rfl, hS⟩
    · have hj5 : j < 5 := by omega
      go_wp2
      go_loopg [7] (b - i) (fun k s7 wr => ∃ t : Nat, s7 = .int .i64 ((t + 1 : Nat) : Int) ∧ k = b - (t + 1) ∧ i ≤ t + 1 ∧ t + 1 ≤ b ∧ SW base g cap w dk wr ∧ Hid (scanSorted ltN dk b (t + 1) = scanSorted ltN dk b i))
      case atStart => obtain ⟨i, rfl⟩ : ∃ i', i = i' + 1 := ⟨i - 1, by omega⟩; exact ⟨i, rfl, rfl, Nat.le_refl _, hi2, hS, Lib.hid rfl⟩
      case round =>
        clear hS
        obtain ⟨t, rfl, rfl, ht1, ht2, hS, HI⟩ := hrel
        go_upto_region 5 with fail
        go_cut [32] from 17 to 34 (fun sc wx => sc = .bool (decide (t + 1 < b) && !ltN dk[t + 1]! dk[t]!) ∧ SW base g cap w dk wx)
        case first =>
          by_cases hg : t + 1 < b
          · have hwj : IntKind.i64.wrap (t : Int) = (t : Int) := IntWalk.i64_in _ (by omega)
            have c1 := hS.1.cell (i := t + 1) (by rw [HDk.out]; omega)
            have f1 := hS.1.frozen (t + 1)
            have c2 := hS.1.cell (i := t) (by rw [HDk.out]; omega)
            have f2 := hS.1.frozen (t)
            have b1 : ((t + 1 : Nat) : Int) < (d.size : Int) := by omega
            have n1 : (0 : Int) ≤ ((t + 1 : Nat) : Int) := by omega
            have b2 : ((t : Nat) : Int) < (d.size : Int) := by omega
            have n2 : (0 : Int) ≤ ((t : Nat) : Int) := by omega
            have hd1 : decide ((t : Int) + 1 < (b : Int)) = true := decide_eq_true (by omega)
            go_quiet ((go_at_call 73; exact Calls.quiet_of_same (lessN rfl _)))
            go_wp2
            go_meet
            exact ⟨by rw [decide_eq_true hg]; rfl, hS.drewN _⟩
          · have hd1 : decide ((t : Int) + 1 < (b : Int)) = false := decide_eq_false (by omega)
            go_quiet (fail)
            go_wp2
            go_meet
            exact ⟨by rw [decide_eq_false hg]; rfl, hS.drewN _⟩
        case rest =>
          obtain ⟨rfl, hS⟩ := hcut
          cases hB : (decide (t + 1 < b) && !ltN dk[t + 1]! dk[t]!) with
          | true =>
            have HB := Lib.hid hB
            clear hB
            have hij : t + 1 < b := by have h := HB.out; simp only [Bool.and_eq_true, decide_eq_true_eq] at h; exact h.1
            go_wp2_with fail
            go_roundg (b - (t + 1 + 1))
            case measure => omega
            case rel => exact ⟨t + 1, by go_num, rfl, by omega, by omega, hS, Lib.hid (by rw [← HI.out]; have h := HB.out; simp only [Bool.and_eq_true, decide_eq_true_eq, Bool.not_eq_true'] at h; exact (ss_go h.1 (by simpa using h.2)).symm)⟩
          | false =>
            have HI2 : Hid (scanSorted ltN dk b i = t + 1) := Lib.hid (by rw [← HI.out]; exact ss_end fun hle => by simpa [hle] using hB)
            clear hB HI
            by_cases hub : t + 1 = b
            · have HF : Hid (R = (dk, true)) := Lib.hid (by rw [← HE.out, partialIns_succ, HI2.out, if_pos hub])
              have hbz : (b : Int) = ((t + 1 : Nat) : Int) := by omega
              have hd1 : (((t + 1 : Nat) : Int) == (b : Int)) = true := by simp [hbz]
              have hd2 : ((t : Int) + 1 == (b : Int)) = true := by simp [hbz]
              go_wp2
              go_ret
              exact ⟨true, dk, HF.out, rfl, hS⟩
            · have hd1 : (((t + 1 : Nat) : Int) == (b : Int)) = false := by simp; omega
              have hd2 : ((t : Int) + 1 == (b : Int)) = false := by simp; omega
              have hd3 : ¬ (t : Int) + 1 = (b : Int) := by omega
              by_cases h50 : b - a < 50
              · have HF : Hid (R = (dk, false)) := Lib.hid (by rw [← HE.out, partialIns_succ, HI2.out, if_neg hub, if_pos h50])
                have h50z : (b : Int) - (a : Int) < 50 := by omega
                go_wp2
                go_ret
                exact ⟨false, dk, HF.out, rfl, hS⟩
              · have HE2 : Hid (partialIns ltN a b k (t + 1) (fixUp ltN b (t + 1) (fixDown ltN a (t + 1) (swp dk (t + 1) t))) = R) := Lib.hid (by rw [← HE.out, partialIns_succ, HI2.out, if_neg hub, if_neg h50]; rfl)
                have h50z : ¬ (b : Int) - (a : Int) < 50 := by omega
                have h50y : (50 : Int) ≤ (b : Int) - (a : Int) := by omega
                clear HE HI2
                go_upto_region 11 with fail
                obtain ⟨x, hx⟩ : ∃ x, dk[t + 1]! = x := ⟨_, rfl⟩
                obtain ⟨y, hy⟩ : ∃ y, dk[t]! = y := ⟨_, rfl⟩
                have c1 := hS.1.cell (i := t + 1) (by rw [HDk.out]; omega)
                have f1 := hS.1.frozen (t + 1)
                have c2 := hS.1.cell (i := t) (by rw [HDk.out]; omega)
                have f2 := hS.1.frozen (t)
                rw [hx] at c1
                rw [hy] at c2
                have HX := Lib.hid hx
                have HY := Lib.hid hy
                clear hx hy
                have b1 : ((t + 1 : Nat) : Int) < (d.size : Int) := by omega
                have n1 : (0 : Int) ≤ ((t + 1 : Nat) : Int) := by omega
                have b2 : ((t : Nat) : Int) < (d.size : Int) := by omega
                have n2 : (0 : Int) ≤ ((t : Nat) : Int) := by omega
                have hwj : IntKind.i64.wrap (t : Int) = (t : Int) := IntWalk.i64_in _ (by omega)
                go_wp2
                go_region
                clear hwj
                have hsw := (hS.swap (i := t + 1) (j := t)).drew
                rw [HX.out, HY.out] at hsw
                clear hS c1 c2 f1 f2 HX HY
                generalize World.drew _ = w3 at hsw ⊢
                have hS := hsw
                clear hsw
                obtain ⟨d1, hd1'⟩ : ∃ d1, swp dk (t + 1) t = d1 := ⟨_, rfl⟩
                rw [hd1'] at hS HE2
                have HD1 : Hid (d1.size = d.size) := Lib.hid (by rw [← hd1', size_swp, HDk.out])
                clear hd1'
                go_upto_if 61 with fail
                go_cut [] from 13 to 132 (fun wx => SW base g cap w (fixDown ltN a (t + 1) d1) wx)
                case first =>
                  by_cases h2 : t + 1 - a ≥ 2
                  · have h2z : (2 : Int) ≤ ((t + 1 : Nat) : Int) - (a : Int) := by omega
                    have hwt : IntKind.i64.wrap (t : Int) = (t : Int) := IntWalk.i64_in _ (by omega)
                    have HF : Hid (fixDown ltN a (t + 1) d1 = shiftDown ltN t d1) := Lib.hid (by unfold fixDown; rw [if_pos h2]; rfl)
                    go_wp2
                    go_loopg [9] (0 + t) (fun k s9 wr => ∃ (j : Nat) (dj : Array Nat), s9 = .int .i64 j ∧ k = 0 + j ∧ j ≤ t ∧ Hid (dj.size = d.size) ∧ SW base g cap w dj wr ∧ Hid (shiftDown ltN j dj = shiftDown ltN t d1))
                    case atStart => exact ⟨t, d1, by go_num, rfl, Nat.le_refl _, HD1, hS, Lib.hid rfl⟩
                    case round =>
                      clear hS
                      obtain ⟨j3, dj, rfl, rfl, hj1, HDj, hS, HJ⟩ := hrel
                      rcases j3 with _ | q
                      · go_wp2
                        go_meet
                        rw [HF.out, ← HJ.out]; exact hS
                      · have hq1 : (1 : Int) ≤ ((q + 1 : Nat) : Int) := by omega
                        obtain ⟨x, hx⟩ : ∃ x, dj[q + 1]! = x := ⟨_, rfl⟩
                        obtain ⟨y, hy⟩ : ∃ y, dj[q]! = y := ⟨_, rfl⟩
                        have c1 := hS.1.cell (i := q + 1) (by rw [HDj.out]; omega)
                        have f1 := hS.1.frozen (q + 1)
                        have c2 := hS.1.cell (i := q) (by rw [HDj.out]; omega)
                        have f2 := hS.1.frozen (q)
                        rw [hx] at c1
                        rw [hy] at c2
                        have HX := Lib.hid hx
                        have HY := Lib.hid hy
                        clear hx hy
                        have hwj : IntKind.i64.wrap (q : Int) = (q : Int) := IntWalk.i64_in _ (by omega)
                        cases hl : ltN x y with
                        | true =>
                          have HLT := Lib.hid hl
                          clear hl
                          go_wp2
                          go_quiet ((go_at_call 73; exact Calls.quiet_of_same (lessN HLT.out _)))
                          have hS := hS.drewN nq
                          clear c1 c2 f1 f2
                          have c1 := hS.1.cell (i := q + 1) (by rw [HDj.out]; omega)
                          have f1 := hS.1.frozen (q + 1)
                          have c2 := hS.1.cell (i := q) (by rw [HDj.out]; omega)
                          have f2 := hS.1.frozen q
                          rw [HX.out] at c1
                          rw [HY.out] at c2
                          generalize World.drewN _ nq = wr3 at hS c1 c2 f1 f2 ⊢
                          have b1 : ((q + 1 : Nat) : Int) < (d.size : Int) := by omega
                          have n1 : (0 : Int) ≤ ((q + 1 : Nat) : Int) := by omega
                          have b2 : ((q : Nat) : Int) < (d.size : Int) := by omega
                          have n2 : (0 : Int) ≤ ((q : Nat) : Int) := by omega
                          go_wp2
                          go_region
                          have hsw := (hS.swap (i := q + 1) (j := q)).drew
                          rw [HX.out, HY.out] at hsw
                          go_wp2_with fail
                          go_roundg (0 + q)
                          case measure => omega
                          case rel => exact ⟨q, _, by go_num, rfl, by omega, Lib.hid (by rw [size_swp, HDj.out]), hsw, Lib.hid (by rw [← HJ.out, sdn_go (by rw [HX.out, HY.out]; exact HLT.out)])⟩
                        | false =>
                          have HLT := Lib.hid hl
                          clear hl
                          go_wp2
                          go_quiet ((go_at_call 73; exact Calls.quiet_of_same (lessN HLT.out _)))
                          go_wp2
                          go_meet
                          rw [HF.out, ← HJ.out, sdn_end (by rw [HX.out, HY.out]; exact HLT.out)]; exact hS.drewN _
                  · have h2z : ¬ (2 : Int) ≤ ((t + 1 : Nat) : Int) - (a : Int) := by omega
                    have h2y : ((t + 1 : Nat) : Int) - (a : Int) < 2 := by omega
                    go_wp2
                    go_meet
                    unfold fixDown; rw [if_neg h2]; exact hS
                case rest =>
                  clear hS
                  have hS := hcut
                  clear hcut
                  obtain ⟨d2, hd2'⟩ : ∃ d2, fixDown ltN a (t + 1) d1 = d2 := ⟨_, rfl⟩
                  rw [hd2'] at hS HE2
                  have HD2 : Hid (d2.size = d.size) := Lib.hid (by rw [← hd2', fixDown_size, HD1.out])
                  clear hd2' HD1
                  by_cases h2 : b - (t + 1) ≥ 2
                  · have h2z : (2 : Int) ≤ (b : Int) - ((t + 1 : Nat) : Int) := by omega
                    have HF : Hid (fixUp ltN b (t + 1) d2 = shiftUp ltN b (t + 2) d2) := Lib.hid (by unfold fixUp; rw [if_pos h2])
                    go_wp2
                    go_loopg [10] (b - (t + 1)) (fun k s10 wr => ∃ (q : Nat) (dj : Array Nat), s10 = .int .i64 ((q + 1 : Nat) : Int) ∧ k = b - q ∧ t + 1 ≤ q ∧ q + 1 ≤ b ∧ Hid (dj.size = d.size) ∧ SW base g cap w dj wr ∧ Hid (shiftUp ltN b (q + 1) dj = shiftUp ltN b (t + 2) d2))
                    case atStart => exact ⟨t + 1, d2, by go_num, rfl, Nat.le_refl _, by omega, HD2, hS, Lib.hid rfl⟩
                    case round =>
                      clear hS
                      obtain ⟨q, dj, rfl, rfl, hq1, hq2, HDj, hS, HJ⟩ := hrel
                      by_cases hqb : q + 1 < b
                      · have hqz : ((q + 1 : Nat) : Int) < (b : Int) := by omega
                        obtain ⟨x, hx⟩ : ∃ x, dj[q + 1]! = x := ⟨_, rfl⟩
                        obtain ⟨y, hy⟩ : ∃ y, dj[q]! = y := ⟨_, rfl⟩
                        have c1 := hS.1.cell (i := q + 1) (by rw [HDj.out]; omega)
                        have f1 := hS.1.frozen (q + 1)
                        have c2 := hS.1.cell (i := q) (by rw [HDj.out]; omega)
                        have f2 := hS.1.frozen (q)
                        rw [hx] at c1
                        rw [hy] at c2
                        have HX := Lib.hid hx
                        have HY := Lib.hid hy
                        clear hx hy
                        have hwj : IntKind.i64.wrap (q : Int) = (q : Int) := IntWalk.i64_in _ (by omega)
                        cases hl : ltN x y with
                        | true =>
                          have HLT := Lib.hid hl
                          clear hl
                          go_wp2
                          go_quiet ((go_at_call 73; exact Calls.quiet_of_same (lessN HLT.out _)))
                          have hS := hS.drewN nq
                          clear c1 c2 f1 f2
                          have c1 := hS.1.cell (i := q + 1) (by rw [HDj.out]; omega)
                          have f1 := hS.1.frozen (q + 1)
                          have c2 := hS.1.cell (i := q) (by rw [HDj.out]; omega)
                          have f2 := hS.1.frozen q
                          rw [HX.out] at c1
                          rw [HY.out] at c2
                          generalize World.drewN _ nq = wr3 at hS c1 c2 f1 f2 ⊢
                          have b1 : ((q + 1 : Nat) : Int) < (d.size : Int) := by omega
                          have n1 : (0 : Int) ≤ ((q + 1 : Nat) : Int) := by omega
                          have b2 : ((q : Nat) : Int) < (d.size : Int) := by omega
                          have n2 : (0 : Int) ≤ ((q : Nat) : Int) := by omega
                          go_wp2
                          go_region
                          have hsw := (hS.swap (i := q + 1) (j := q)).drew
                          rw [HX.out, HY.out] at hsw
                          go_wp2_with fail
                          go_roundg (b - (q + 1))
                          case measure => omega
                          case rel => exact ⟨q + 1, _, by go_num, rfl, by omega, by omega, Lib.hid (by rw [size_swp, HDj.out]), hsw, Lib.hid (by rw [← HJ.out, sup_go hqb (by rw [Nat.add_sub_cancel, HX.out, HY.out]; exact HLT.out)]; rfl)⟩
                        | false =>
                          have HLT := Lib.hid hl
                          clear hl
                          go_wp2
                          go_quiet ((go_at_call 73; exact Calls.quiet_of_same (lessN HLT.out _)))
                          have HU : fixUp ltN b (t + 1) d2 = dj := by rw [HF.out, ← HJ.out, sup_end (fun _ => by rw [Nat.add_sub_cancel, HX.out, HY.out]; exact HLT.out)]
                          go_wp2_with fail
                          go_roundg k
                          case measure => omega
                          case rel => exact ⟨t + 1, j + 1, _, rfl, by go_num, by omega, by omega, ht2, HDj, hS.drewN _, Lib.hid (by rw [← HE2.out, HU])⟩
                      · have hqz : ¬ ((q + 1 : Nat) : Int) < (b : Int) := by omega
                        have HU : fixUp ltN b (t + 1) d2 = dj := by rw [HF.out, ← HJ.out, sup_end (fun h => absurd h hqb)]
                        go_wp2_with fail
                        go_roundg k
                        case measure => omega
                        case rel => exact ⟨t + 1, j + 1, _, rfl, by go_num, by omega, by omega, ht2, HDj, hS, Lib.hid (by rw [← HE2.out, HU])⟩
                  · have h2z : ¬ (2 : Int) ≤ (b : Int) - ((t + 1 : Nat) : Int) := by omega
                    have h2y : (b : Int) - ((t + 1 : Nat) : Int) < 2 := by omega
                    have HU : fixUp ltN b (t + 1) d2 = d2 := by unfold fixUp; rw [if_neg h2]
                    go_wp2_with fail
                    go_roundg k
                    case measure => omega
                    case rel => exact ⟨t + 1, j + 1, _, rfl, by go_num, by omega, by omega, ht2, HD2, hS, Lib.hid (by rw [← HE2.out, HU])⟩

end Go.Proofs.Ytcdjjodiiaahfaa
