/-
  The general sort: partitionOrdered at []rune.
-/
import Derived.Test.YtcdjjodiiaahfaaSortE
namespace Go.Proofs.Ytcdjjodiiaahfaa
open Go.RowKit Puny Go.Shelf Go.Sort

set_option maxRecDepth 100000 in
set_option maxHeartbeats 4000000 in
theorem partition_walk (base g cap a b pv : Nat) (d : Array Nat) (w : World) (hw : OW base g cap d w) (hp1 : a ≤ pv) (hp2 : pv < b) (hb : b ≤ d.size) (hsz : d.size ≤ 1000000) :
    Calls Try.prog 75 #[.slice (some ⟨g, 0, none⟩) d.size cap, .int .i64 a, .int .i64 b, .int .i64 pv] w (fun e w' => ∃ m ap d', partition ltN d a b pv = (m, ap, d') ∧ e = .returned (.tuple #[.int .i64 (m : Int), .bool ap]) ∧ SW base g cap w d' w') := by
  have hS := SW.refl hw
  have HDd : Hid (d.size = d.size) := Lib.hid rfl
  obtain ⟨J, rfl⟩ : ∃ J, b = J + 1 := ⟨b - 1, by omega⟩
  go_enter Try.func75, Try.ntmps75
  have hx : ∃ x, d[a]! = x := ⟨_, rfl⟩
  obtain ⟨x, hx⟩ := hx
  have hy : ∃ y, d[pv]! = y := ⟨_, rfl⟩
  obtain ⟨y, hy⟩ := hy
  have c1 := hS.1.cell (i := a) (by rw [HDd.out]; omega)
  have f1 := hS.1.frozen (a)
  have c2 := hS.1.cell (i := pv) (by rw [HDd.out]; omega)
  have f2 := hS.1.frozen (pv)
  rw [hx] at c1
  rw [hy] at c2
  have HX := Lib.hid hx
  have HY := Lib.hid hy
  clear hx hy
  have hS2 := hS.set (a) y
  have c3 := hS2.1.cell (i := pv) (by rw [Array.size_setIfInBounds, HDd.out]; omega)
  have f3 := hS2.1.frozen (pv)
  generalize (Array.setIfInBounds d (a) y)[pv]! = z at c3
  clear hS2
  have b1 : ((a : Nat) : Int) < (d.size : Int) := by omega
  have n1 : (0 : Int) ≤ ((a : Nat) : Int) := by omega
  have b2 : ((pv : Nat) : Int) < (d.size : Int) := by omega
  have n2 : (0 : Int) ≤ ((pv : Nat) : Int) := by omega
  go_wp2
  go_region
  have hsw := (hS.swap (i := a) (j := pv)).drew
  rw [HX.out, HY.out] at hsw
  clear hS c1 c2 f1 f2 c3 f3 HX HY
  generalize World.drew _ = w1 at hsw ⊢
  have hS := hsw
  clear hsw
  obtain ⟨d1, hd1⟩ : ∃ d1, swp d a pv = d1 := ⟨_, rfl⟩
  rw [hd1] at hS
  have HD1 : Hid (d1.size = d.size) := Lib.hid (by rw [← hd1, size_swp])
  have HSP := Lib.hid hd1
  clear hd1
  go_upto_region 2 with fail
  go_cut [10, 11] from 12 (fun si sj wx => si = .int .i64 ((a + 1 : Nat) : Int) ∧ sj = .int .i64 (J : Int) ∧ SW base g cap w d1 wx)
  case first =>
    go_wp2_with fail
    go_meet
    exact ⟨by go_num, by go_num, hS⟩
  case rest =>
    clear hS
    obtain ⟨rfl, rfl, hS⟩ := hcut
    clear hw
    go_wp2
    go_loopg [10] (J + 1 - (a + 1)) (fun k si wr => ∃ i : Nat, si = .int .i64 i ∧ k = J + 1 - i ∧ (a + 1) ≤ i ∧ i ≤ J + 1 ∧ SW base g cap w d1 wr ∧ Hid (scanUp (fun x => ltN x d1[a]!) d1 J i = scanUp (fun x => ltN x d1[a]!) d1 J (a + 1)))
    case atStart => exact ⟨(a + 1), by first | rfl | go_num, rfl, Nat.le_refl _, by omega, hS, Lib.hid rfl⟩
    case round =>
      clear hS
      obtain ⟨i, rfl, rfl, hi1, hi2, hS, HI⟩ := hrel
      go_upto_region 3 with fail
      go_cut [43] from 30 to 45 (fun sc wx => sc = .bool (decide (i ≤ J) && ltN d1[i]! d1[a]!) ∧ SW base g cap w d1 wx)
      case first =>
        by_cases hg : i ≤ J
        · have c1 := hS.1.cell (i := i) (by rw [HD1.out]; omega)
          have f1 := hS.1.frozen (i)
          have c2 := hS.1.cell (i := a) (by rw [HD1.out]; omega)
          have f2 := hS.1.frozen (a)
          have b1 : ((i : Nat) : Int) < (d.size : Int) := by omega
          have n1 : (0 : Int) ≤ ((i : Nat) : Int) := by omega
          have b2 : ((a : Nat) : Int) < (d.size : Int) := by omega
          have n2 : (0 : Int) ≤ ((a : Nat) : Int) := by omega
          have hd1 : decide ((i : Int) ≤ (J : Int)) = true := decide_eq_true (by omega)
          go_quiet ((go_at_call 73; exact Calls.quiet_of_same (lessN rfl _)))
          go_wp2
          go_meet
          exact ⟨by rw [decide_eq_true hg]; rfl, hS.drewN _⟩
        · have hd1 : decide ((i : Int) ≤ (J : Int)) = false := decide_eq_false (by omega)
          go_quiet (fail)
          go_wp2
          go_meet
          exact ⟨by rw [decide_eq_false hg]; rfl, hS.drewN _⟩
      case rest =>
        obtain ⟨rfl, hS⟩ := hcut
        cases hB : (decide (i ≤ J) && ltN d1[i]! d1[a]!) with
        | true =>
          have HB := Lib.hid hB
          clear hB
          have hij : i ≤ J := by have h := HB.out; simp only [Bool.and_eq_true, decide_eq_true_eq] at h; exact h.1
          go_wp2_with fail
          go_roundg (J + 1 - (i + 1))
          case measure => omega
          case rel => exact ⟨i + 1, by go_num, rfl, by omega, by omega, hS, Lib.hid (by rw [← HI.out]; have h := HB.out; simp only [Bool.and_eq_true, decide_eq_true_eq] at h; exact (up_go h.1 (by simpa using h.2)).symm)⟩
        | false =>
          have HI2 : Hid (scanUp (fun x => ltN x d1[a]!) d1 J (a + 1) = i) := Lib.hid (by rw [← HI.out]; exact up_end fun hle => by simpa [hle] using hB)
          clear hB HI
          go_wp2
          go_loopg [11] (0 + J) (fun k sj wr => ∃ j : Nat, sj = .int .i64 j ∧ k = 0 + j ∧ j ≤ J ∧ i ≤ j + 1 ∧ SW base g cap w d1 wr ∧ Hid (scanDown (fun x => !ltN x d1[a]!) d1 i j = scanDown (fun x => !ltN x d1[a]!) d1 i J))
          case atStart => exact ⟨J, by first | rfl | go_num, rfl, Nat.le_refl _, hi2, hS, Lib.hid rfl⟩
          case round =>
            clear hS
            obtain ⟨j, rfl, rfl, hj1, hj2, hS, HJ⟩ := hrel
            go_upto_region 5 with fail
            go_cut [60] from 46 to 62 (fun sc wx => sc = .bool (decide (i ≤ j) && !ltN d1[j]! d1[a]!) ∧ SW base g cap w d1 wx)
            case first =>
              by_cases hg : i ≤ j
              · have c1 := hS.1.cell (i := j) (by rw [HD1.out]; omega)
                have f1 := hS.1.frozen (j)
                have c2 := hS.1.cell (i := a) (by rw [HD1.out]; omega)
                have f2 := hS.1.frozen (a)
                have b1 : ((j : Nat) : Int) < (d.size : Int) := by omega
                have n1 : (0 : Int) ≤ ((j : Nat) : Int) := by omega
                have b2 : ((a : Nat) : Int) < (d.size : Int) := by omega
                have n2 : (0 : Int) ≤ ((a : Nat) : Int) := by omega
                have hd1 : decide ((i : Int) ≤ (j : Int)) = true := decide_eq_true (by omega)
                go_quiet ((go_at_call 73; exact Calls.quiet_of_same (lessN rfl _)))
                go_wp2
                go_meet
                exact ⟨by rw [decide_eq_true hg]; rfl, hS.drewN _⟩
              · have hd1 : decide ((i : Int) ≤ (j : Int)) = false := decide_eq_false (by omega)
                go_quiet (fail)
                go_wp2
                go_meet
                exact ⟨by rw [decide_eq_false hg]; rfl, hS.drewN _⟩
            case rest =>
              obtain ⟨rfl, hS⟩ := hcut
              cases hB : (decide (i ≤ j) && !ltN d1[j]! d1[a]!) with
              | true =>
                have HB := Lib.hid hB
                clear hB
                have hij : i ≤ j := by have h := HB.out; simp only [Bool.and_eq_true, decide_eq_true_eq] at h; exact h.1
                obtain ⟨j, rfl⟩ : ∃ j', j = j' + 1 := ⟨j - 1, by omega⟩
                go_wp2_with fail
                go_roundg (0 + j)
                case measure => omega
                case rel => exact ⟨j, by go_num, rfl, by omega, by omega, hS, Lib.hid (by rw [← HJ.out]; have h := HB.out; simp only [Bool.and_eq_true, decide_eq_true_eq] at h; exact (down_go h.1 (by simpa using h.2)).symm)⟩
              | false =>
                have HJ2 : Hid (scanDown (fun x => !ltN x d1[a]!) d1 i J = j) := Lib.hid (by rw [← HJ.out]; exact down_end fun hle => by simpa [hle] using hB)
                clear hB HJ
                by_cases hij : j < i
                · have HPP : Hid (partition ltN d a (J + 1) pv = (j, true, swp d1 j a)) := Lib.hid (by unfold partition; simp only [HSP.out, Nat.add_sub_cancel, HI2.out, HJ2.out]; rw [if_pos hij])
                  have hx : ∃ x, d1[j]! = x := ⟨_, rfl⟩
                  obtain ⟨x, hx⟩ := hx
                  have hy : ∃ y, d1[a]! = y := ⟨_, rfl⟩
                  obtain ⟨y, hy⟩ := hy
                  have c1 := hS.1.cell (i := j) (by rw [HD1.out]; omega)
                  have f1 := hS.1.frozen (j)
                  have c2 := hS.1.cell (i := a) (by rw [HD1.out]; omega)
                  have f2 := hS.1.frozen (a)
                  rw [hx] at c1
                  rw [hy] at c2
                  have HX := Lib.hid hx
                  have HY := Lib.hid hy
                  clear hx hy
                  have hS2 := hS.set (j) y
                  have c3 := hS2.1.cell (i := a) (by rw [Array.size_setIfInBounds, HD1.out]; omega)
                  have f3 := hS2.1.frozen (a)
                  generalize (Array.setIfInBounds d1 (j) y)[a]! = z at c3
                  clear hS2
                  have b1 : ((j : Nat) : Int) < (d.size : Int) := by omega
                  have n1 : (0 : Int) ≤ ((j : Nat) : Int) := by omega
                  have b2 : ((a : Nat) : Int) < (d.size : Int) := by omega
                  have n2 : (0 : Int) ≤ ((a : Nat) : Int) := by omega
                  go_wp2
                  go_region
                  have hsw := (hS.swap (i := j) (j := a)).drew
                  rw [HX.out, HY.out] at hsw
                  clear hS c1 c2 f1 f2 c3 f3 HX HY
                  generalize World.drew _ = w3 at hsw ⊢
                  go_wp2
                  go_ret2
                  exact ⟨j, true, _, HPP.out, rfl, hsw⟩
                · have hij2 : i ≤ j := by omega
                  have hne := scans_ne (fun x => by simp) HI2.out HJ2.out (by omega) hij2
                  obtain ⟨j, rfl⟩ : ∃ j', j = j' + 1 := ⟨j - 1, by omega⟩
                  have HPP : Hid (partition ltN d a (J + 1) pv = ((partLoop ltN a (i + 1) j (swp d1 i (j + 1))).1, false, swp (partLoop ltN a (i + 1) j (swp d1 i (j + 1))).2 (partLoop ltN a (i + 1) j (swp d1 i (j + 1))).1 a)) := Lib.hid (by unfold partition; simp only [HSP.out, Nat.add_sub_cancel, HI2.out, HJ2.out]; rw [if_neg hij])
                  have hx : ∃ x, d1[i]! = x := ⟨_, rfl⟩
                  obtain ⟨x, hx⟩ := hx
                  have hy : ∃ y, d1[j + 1]! = y := ⟨_, rfl⟩
                  obtain ⟨y, hy⟩ := hy
                  have c1 := hS.1.cell (i := i) (by rw [HD1.out]; omega)
                  have f1 := hS.1.frozen (i)
                  have c2 := hS.1.cell (i := j + 1) (by rw [HD1.out]; omega)
                  have f2 := hS.1.frozen (j + 1)
                  rw [hx] at c1
                  rw [hy] at c2
                  have HX := Lib.hid hx
                  have HY := Lib.hid hy
                  clear hx hy
                  have hS2 := hS.set (i) y
                  have c3 := hS2.1.cell (i := j + 1) (by rw [Array.size_setIfInBounds, HD1.out]; omega)
                  have f3 := hS2.1.frozen (j + 1)
                  generalize (Array.setIfInBounds d1 (i) y)[j + 1]! = z at c3
                  clear hS2
                  have b1 : ((i : Nat) : Int) < (d.size : Int) := by omega
                  have n1 : (0 : Int) ≤ ((i : Nat) : Int) := by omega
                  have b2 : ((j + 1 : Nat) : Int) < (d.size : Int) := by omega
                  have n2 : (0 : Int) ≤ ((j + 1 : Nat) : Int) := by omega
                  go_wp2
                  go_region
                  have hsw := (hS.swap (i := i) (j := j + 1)).drew
                  rw [HX.out, HY.out] at hsw
                  clear hS c1 c2 f1 f2 c3 f3 HX HY
                  generalize World.drew _ = w3 at hsw ⊢
                  have hS := hsw
                  clear hsw
                  obtain ⟨d2, hd2⟩ : ∃ d2, swp d1 i (j + 1) = d2 := ⟨_, rfl⟩
                  rw [hd2] at hS HPP
                  have HD2 : Hid (d2.size = d.size) := Lib.hid (by rw [← hd2, size_swp, HD1.out])
                  clear hd2 HI2 HJ2
                  obtain ⟨R, hR⟩ : ∃ R, partLoop ltN a (i + 1) j d2 = R := ⟨_, rfl⟩
                  rw [hR] at HPP
                  have HR := Lib.hid hR
                  clear hR
                  go_wp2
                  go_loopg [10, 11] (j + 1 - (i + 1)) (fun k si sj wr => ∃ (i0 j0 : Nat) (dk : Array Nat), si = .int .i64 i0 ∧ sj = .int .i64 j0 ∧ k = j0 + 1 - i0 ∧ a < i0 ∧ i0 ≤ j0 + 1 ∧ j0 < J + 1 ∧ Hid (dk.size = d.size) ∧ SW base g cap w dk wr ∧ Hid (partLoop ltN a i0 j0 dk = R))
                  case atStart => exact ⟨i + 1, j, d2, by go_num, by go_num, rfl, by omega, by omega, by omega, HD2, hS, HR⟩
                  case round =>
                    clear hS HR HD2 HD1 HSP hi1 hi2 hj1 hj2 hij hij2 hne
                    obtain ⟨i0, j0, dk, rfl, rfl, rfl, ha0, hi0, hj0, HDk, hS, HE⟩ := hrel
                    go_wp2
                    go_loopg [10] (j0 + 1 - i0) (fun k si wr => ∃ i : Nat, si = .int .i64 i ∧ k = j0 + 1 - i ∧ i0 ≤ i ∧ i ≤ j0 + 1 ∧ SW base g cap w dk wr ∧ Hid (scanUp (fun x => ltN x dk[a]!) dk j0 i = scanUp (fun x => ltN x dk[a]!) dk j0 i0))
                    case atStart => exact ⟨i0, by first | rfl | go_num, rfl, Nat.le_refl _, by omega, hS, Lib.hid rfl⟩
                    case round =>
                      clear hS
                      obtain ⟨i, rfl, rfl, hi1, hi2, hS, HI⟩ := hrel
                      go_upto_region 13 with fail
                      go_cut [112] from 99 to 114 (fun sc wx => sc = .bool (decide (i ≤ j0) && ltN dk[i]! dk[a]!) ∧ SW base g cap w dk wx)
                      case first =>
                        by_cases hg : i ≤ j0
                        · have c1 := hS.1.cell (i := i) (by rw [HDk.out]; omega)
                          have f1 := hS.1.frozen (i)
                          have c2 := hS.1.cell (i := a) (by rw [HDk.out]; omega)
                          have f2 := hS.1.frozen (a)
                          have b1 : ((i : Nat) : Int) < (d.size : Int) := by omega
                          have n1 : (0 : Int) ≤ ((i : Nat) : Int) := by omega
                          have b2 : ((a : Nat) : Int) < (d.size : Int) := by omega
                          have n2 : (0 : Int) ≤ ((a : Nat) : Int) := by omega
                          have hd1 : decide ((i : Int) ≤ (j0 : Int)) = true := decide_eq_true (by omega)
                          go_quiet ((go_at_call 73; exact Calls.quiet_of_same (lessN rfl _)))
                          go_wp2
                          go_meet
                          exact ⟨by rw [decide_eq_true hg]; rfl, hS.drewN _⟩
                        · have hd1 : decide ((i : Int) ≤ (j0 : Int)) = false := decide_eq_false (by omega)
                          go_quiet (fail)
                          go_wp2
                          go_meet
                          exact ⟨by rw [decide_eq_false hg]; rfl, hS.drewN _⟩
                      case rest =>
                        obtain ⟨rfl, hS⟩ := hcut
                        cases hB : (decide (i ≤ j0) && ltN dk[i]! dk[a]!) with
                        | true =>
                          have HB := Lib.hid hB
                          clear hB
                          have hij : i ≤ j0 := by have h := HB.out; simp only [Bool.and_eq_true, decide_eq_true_eq] at h; exact h.1
                          go_wp2_with fail
                          go_roundg (j0 + 1 - (i + 1))
                          case measure => omega
                          case rel => exact ⟨i + 1, by go_num, rfl, by omega, by omega, hS, Lib.hid (by rw [← HI.out]; have h := HB.out; simp only [Bool.and_eq_true, decide_eq_true_eq] at h; exact (up_go h.1 (by simpa using h.2)).symm)⟩
                        | false =>
                          have HI2 : Hid (scanUp (fun x => ltN x dk[a]!) dk j0 i0 = i) := Lib.hid (by rw [← HI.out]; exact up_end fun hle => by simpa [hle] using hB)
                          clear hB HI
                          go_wp2
                          go_loopg [11] (0 + j0) (fun k sj wr => ∃ j : Nat, sj = .int .i64 j ∧ k = 0 + j ∧ j ≤ j0 ∧ i ≤ j + 1 ∧ SW base g cap w dk wr ∧ Hid (scanDown (fun x => !ltN x dk[a]!) dk i j = scanDown (fun x => !ltN x dk[a]!) dk i j0))
                          case atStart => exact ⟨j0, by first | rfl | go_num, rfl, Nat.le_refl _, hi2, hS, Lib.hid rfl⟩
                          case round =>
                            clear hS
                            obtain ⟨j, rfl, rfl, hj1, hj2, hS, HJ⟩ := hrel
                            go_upto_region 15 with fail
                            go_cut [129] from 115 to 131 (fun sc wx => sc = .bool (decide (i ≤ j) && !ltN dk[j]! dk[a]!) ∧ SW base g cap w dk wx)
                            case first =>
                              by_cases hg : i ≤ j
                              · have c1 := hS.1.cell (i := j) (by rw [HDk.out]; omega)
                                have f1 := hS.1.frozen (j)
                                have c2 := hS.1.cell (i := a) (by rw [HDk.out]; omega)
                                have f2 := hS.1.frozen (a)
                                have b1 : ((j : Nat) : Int) < (d.size : Int) := by omega
                                have n1 : (0 : Int) ≤ ((j : Nat) : Int) := by omega
                                have b2 : ((a : Nat) : Int) < (d.size : Int) := by omega
                                have n2 : (0 : Int) ≤ ((a : Nat) : Int) := by omega
                                have hd1 : decide ((i : Int) ≤ (j : Int)) = true := decide_eq_true (by omega)
                                go_quiet ((go_at_call 73; exact Calls.quiet_of_same (lessN rfl _)))
                                go_wp2
                                go_meet
                                exact ⟨by rw [decide_eq_true hg]; rfl, hS.drewN _⟩
                              · have hd1 : decide ((i : Int) ≤ (j : Int)) = false := decide_eq_false (by omega)
                                go_quiet (fail)
                                go_wp2
                                go_meet
                                exact ⟨by rw [decide_eq_false hg]; rfl, hS.drewN _⟩
                            case rest =>
                              obtain ⟨rfl, hS⟩ := hcut
                              cases hB : (decide (i ≤ j) && !ltN dk[j]! dk[a]!) with
                              | true =>
                                have HB := Lib.hid hB
                                clear hB
                                have hij : i ≤ j := by have h := HB.out; simp only [Bool.and_eq_true, decide_eq_true_eq] at h; exact h.1
                                obtain ⟨j, rfl⟩ : ∃ j', j = j' + 1 := ⟨j - 1, by omega⟩
                                go_wp2_with fail
                                go_roundg (0 + j)
                                case measure => omega
                                case rel => exact ⟨j, by go_num, rfl, by omega, by omega, hS, Lib.hid (by rw [← HJ.out]; have h := HB.out; simp only [Bool.and_eq_true, decide_eq_true_eq] at h; exact (down_go h.1 (by simpa using h.2)).symm)⟩
                              | false =>
                                have HJ2 : Hid (scanDown (fun x => !ltN x dk[a]!) dk i j0 = j) := Lib.hid (by rw [← HJ.out]; exact down_end fun hle => by simpa [hle] using hB)
                                clear hB HJ
                                by_cases hij : j < i
                                · have HEQ : Hid (partLoop ltN a i0 j0 dk = (j, dk)) := Lib.hid (by rw [partLoop_eq]; simp only [HI2.out, HJ2.out]; rw [if_pos hij])
                                  have hx : ∃ x, dk[j]! = x := ⟨_, rfl⟩
                                  obtain ⟨x, hx⟩ := hx
                                  have hy : ∃ y, dk[a]! = y := ⟨_, rfl⟩
                                  obtain ⟨y, hy⟩ := hy
                                  have c1 := hS.1.cell (i := j) (by rw [HDk.out]; omega)
                                  have f1 := hS.1.frozen (j)
                                  have c2 := hS.1.cell (i := a) (by rw [HDk.out]; omega)
                                  have f2 := hS.1.frozen (a)
                                  rw [hx] at c1
                                  rw [hy] at c2
                                  have HX := Lib.hid hx
                                  have HY := Lib.hid hy
                                  clear hx hy
                                  have hS2 := hS.set (j) y
                                  have c3 := hS2.1.cell (i := a) (by rw [Array.size_setIfInBounds, HDk.out]; omega)
                                  have f3 := hS2.1.frozen (a)
                                  generalize (Array.setIfInBounds dk (j) y)[a]! = z at c3
                                  clear hS2
                                  have b1 : ((j : Nat) : Int) < (d.size : Int) := by omega
                                  have n1 : (0 : Int) ≤ ((j : Nat) : Int) := by omega
                                  have b2 : ((a : Nat) : Int) < (d.size : Int) := by omega
                                  have n2 : (0 : Int) ≤ ((a : Nat) : Int) := by omega
                                  go_wp2
                                  go_region
                                  have hsw := (hS.swap (i := j) (j := a)).drew
                                  rw [HX.out, HY.out] at hsw
                                  clear hS c1 c2 f1 f2 c3 f3 HX HY
                                  generalize World.drew _ = w3 at hsw ⊢
                                  go_wp2
                                  go_ret2
                                  exact ⟨j, false, _, by rw [HPP.out, ← HE.out, HEQ.out], rfl, hsw⟩
                                · have hij2 : i ≤ j := by omega
                                  have hne := scans_ne (fun x => by simp) HI2.out HJ2.out (by omega) hij2
                                  have HEQ : Hid (partLoop ltN a i0 j0 dk = partLoop ltN a (i + 1) (j - 1) (swp dk i j)) := Lib.hid (by rw [partLoop_eq]; simp only [HI2.out, HJ2.out]; rw [if_neg hij])
                                  have hx : ∃ x, dk[i]! = x := ⟨_, rfl⟩
                                  obtain ⟨x, hx⟩ := hx
                                  have hy : ∃ y, dk[j]! = y := ⟨_, rfl⟩
                                  obtain ⟨y, hy⟩ := hy
                                  have c1 := hS.1.cell (i := i) (by rw [HDk.out]; omega)
                                  have f1 := hS.1.frozen (i)
                                  have c2 := hS.1.cell (i := j) (by rw [HDk.out]; omega)
                                  have f2 := hS.1.frozen (j)
                                  rw [hx] at c1
                                  rw [hy] at c2
                                  have HX := Lib.hid hx
                                  have HY := Lib.hid hy
                                  clear hx hy
                                  have hS2 := hS.set (i) y
                                  have c3 := hS2.1.cell (i := j) (by rw [Array.size_setIfInBounds, HDk.out]; omega)
                                  have f3 := hS2.1.frozen (j)
                                  generalize (Array.setIfInBounds dk (i) y)[j]! = z at c3
                                  clear hS2
                                  have b1 : ((i : Nat) : Int) < (d.size : Int) := by omega
                                  have n1 : (0 : Int) ≤ ((i : Nat) : Int) := by omega
                                  have b2 : ((j : Nat) : Int) < (d.size : Int) := by omega
                                  have n2 : (0 : Int) ≤ ((j : Nat) : Int) := by omega
                                  go_wp2
                                  go_region
                                  have hsw := (hS.swap (i := i) (j := j)).drew
                                  rw [HX.out, HY.out] at hsw
                                  clear hS c1 c2 f1 f2 c3 f3 HX HY
                                  generalize World.drew _ = w3 at hsw ⊢
                                  obtain ⟨j, rfl⟩ : ∃ j', j = j' + 1 := ⟨j - 1, by omega⟩
                                  go_wp2_with fail
                                  go_roundg (j + 1 - (i + 1))
                                  case measure => omega
                                  case rel => exact ⟨i + 1, j, _, by go_num, by go_num, rfl, by omega, by omega, by omega, Lib.hid (by rw [size_swp, HDk.out]), hsw, Lib.hid (by rw [← HE.out, HEQ.out]; rfl)⟩

end Go.Proofs.Ytcdjjodiiaahfaa
