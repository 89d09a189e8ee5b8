/-
  The general sort: siftDown, heapSort at []rune.
-/
import Derived.Test.YtcdjjodiiaahfaaSortD
namespace Go.Proofs.Ytcdjjodiiaahfaa
open Go.RowKit Puny Go.Shelf Go.Sort

set_option maxRecDepth 100000 in
set_option maxHeartbeats 2000000 in
theorem siftDown_walk (base g cap lo hi F : Nat) (d : Array Nat) (w : World) (hw : OW base g cap d w) (hlo : lo ≤ 1000000) (hb : F + hi ≤ d.size) (hsz : d.size ≤ 1000000) :
    Calls Try.prog 79 #[.slice (some ⟨g, 0, none⟩) d.size cap, .int .i64 lo, .int .i64 hi, .int .i64 F] w (Sorts base g cap (fun d' => d' = siftDown ltN hi F lo d) w) := by
  go_enter Try.func79, Try.ntmps79
  go_wp2
  go_loopg [8] (hi - lo) (fun k s8 wr => ∃ (r : Nat) (dk : Array Nat), s8 = .int .i64 r ∧ k = hi - r ∧ r ≤ 1000000 ∧ Hid (dk.size = d.size) ∧ SW base g cap w dk wr ∧ Hid (siftDown ltN hi F r dk = siftDown ltN hi F lo d))
  case atStart => exact ⟨lo, d, rfl, rfl, hlo, Lib.hid rfl, SW.refl hw, Lib.hid rfl⟩
  case round =>
    obtain ⟨r, dk, rfl, rfl, hr, HDS, hS, HE⟩ := hrel
    by_cases h0 : 2 * r + 1 < hi
    · go_upto_region 1 with fail
      go_cut [9] from 11 to 75 (fun s9 wx => ∃ c : Nat, s9 = .int .i64 c ∧ Hid (c = 2 * r + 1) ∧ c < hi ∧ r < c ∧ SW base g cap w dk wx)
      case first =>
        go_wp2_with fail
        go_meet
        exact ⟨2 * r + 1, by go_num, Lib.hid rfl, h0, by omega, hS⟩
      case rest =>
        obtain ⟨c, rfl, HC, hc, hrc, hS⟩ := hcut
        go_upto_region 3 with fail
        go_cut [36] from 11 to 75 (fun s36 wx => s36 = .bool (decide (2 * r + 2 < hi) && ltN dk[F + (2 * r + 1)]! dk[F + (2 * r + 2)]!) ∧ SW base g cap w dk wx)
        case first =>
          have w1 : IntKind.i64.wrap ((c : Int) + 1) = (c : Int) + 1 := IntWalk.i64_in _ (by omega)
          have w2 : IntKind.i64.wrap ((F : Int) + (c : Int)) = (F : Int) + (c : Int) := IntWalk.i64_in _ (by omega)
          have w3 : IntKind.i64.wrap ((F : Int) + (c : Int) + 1) = (F : Int) + (c : Int) + 1 := IntWalk.i64_in _ (by omega)
          by_cases h1 : c + 1 < hi
          · have c1 := hS.1.cell (i := F + c) (by rw [HDS.out]; omega)
            have c2 := hS.1.cell (i := F + c + 1) (by rw [HDS.out]; omega)
            have f1 := hS.1.frozen (F + c)
            have f2 := hS.1.frozen (F + c + 1)
            have hd1 : decide ((c : Int) + 1 < (hi : Int)) = true := decide_eq_true (by omega)
            have b1 : (F : Int) + (c : Int) < (d.size : Int) := by omega
            have b2 : (F : Int) + (c : Int) + 1 < (d.size : Int) := by omega
            have b3 : (0 : Int) ≤ (F : Int) + (c : Int) := by omega
            have b4 : (0 : Int) ≤ (F : Int) + (c : Int) + 1 := by omega
            go_quiet ((go_at_call 73; exact Calls.quiet_of_same (lessN rfl _)))
            go_wp2
            go_meet
            exact ⟨by have hc := HC.out; subst hc; rw [decide_eq_true (show 2 * r + 2 < hi by omega)]; rfl, hS.drewN _⟩
          · have hd1 : decide ((c : Int) + 1 < (hi : Int)) = false := decide_eq_false (by omega)
            go_quiet (fail)
            go_wp2
            go_meet
            exact ⟨by have hc := HC.out; rw [decide_eq_false (show ¬ 2 * r + 2 < hi by omega)]; rfl, hS.drewN _⟩
        case rest =>
          obtain ⟨rfl, hS⟩ := hcut
          go_upto_if 36 with fail
          go_cut [9] from 11 to 75 (fun s9 wx => ∃ e : Nat, s9 = .int .i64 e ∧ e < hi ∧ r < e ∧ Hid (siftDown ltN hi F r dk = if ltN dk[F + r]! dk[F + e]! = true then siftDown ltN hi F e (swp dk (F + r) (F + e)) else dk) ∧ SW base g cap w dk wx)
          case first =>
            have w1 : IntKind.i64.wrap ((c : Int) + 1) = (c : Int) + 1 := IntWalk.i64_in _ (by omega)
            cases hB : (decide (2 * r + 2 < hi) && ltN dk[F + (2 * r + 1)]! dk[F + (2 * r + 2)]!) with
            | true =>
              have HB := Lib.hid hB
              clear hB
              go_wp2_with fail
              go_meet
              have hB := HB.out
              have hc := HC.out
              simp only [Bool.and_eq_true, decide_eq_true_eq] at hB
              exact ⟨c + 1, by go_num, by omega, by omega, Lib.hid (by rw [show c + 1 = 2 * r + 2 by omega]; exact sd_right hB.1 hB.2), hS⟩
            | false =>
              have HB := Lib.hid hB
              clear hB
              go_wp2_with fail
              go_meet
              have hB := HB.out
              have hc := HC.out
              simp only [Bool.and_eq_false_iff, decide_eq_false_iff_not] at hB
              exact ⟨c, rfl, by omega, by omega, Lib.hid (by rw [hc]; exact sd_left (by omega) (fun h2 => by rcases hB with h | h; exact absurd h2 h; exact h)), hS⟩
          case rest =>
            obtain ⟨e, rfl, he, hre, HQ, hS⟩ := hcut
            clear HC hc hrc
            have w2 : IntKind.i64.wrap ((F : Int) + (r : Int)) = (F : Int) + (r : Int) := IntWalk.i64_in _ (by omega)
            have w3 : IntKind.i64.wrap ((F : Int) + (e : Int)) = (F : Int) + (e : Int) := IntWalk.i64_in _ (by omega)
            have c1 := hS.1.cell (i := F + r) (by rw [HDS.out]; omega)
            have c2 := hS.1.cell (i := F + e) (by rw [HDS.out]; omega)
            have f1 := hS.1.frozen (F + r)
            have f2 := hS.1.frozen (F + e)
            have b1 : (F : Int) + (r : Int) < (d.size : Int) := by omega
            have b2 : (F : Int) + (e : Int) < (d.size : Int) := by omega
            have b3 : (0 : Int) ≤ (F : Int) + (r : Int) := by omega
            have b4 : (0 : Int) ≤ (F : Int) + (e : Int) := by omega
            obtain ⟨x, hx⟩ : ∃ x, dk[F + r]! = x := ⟨_, rfl⟩
            obtain ⟨y, hy⟩ : ∃ y, dk[F + e]! = y := ⟨_, rfl⟩
            rw [hx] at c1
            rw [hy] at c2
            have HX := Lib.hid hx
            have HY := Lib.hid hy
            clear hx hy
            cases hl : ltN x y with
            | true =>
              have HLT := Lib.hid hl
              clear hl
              go_wp2
              go_quiet ((go_at_call 73; exact Calls.quiet_of_same (lessN HLT.out _)))
              go_wp2
              have hS3 := hS.drewN nq
              have d1 := hS3.1.cell (i := F + r) (by rw [HDS.out]; omega)
              have d2 := hS3.1.cell (i := F + e) (by rw [HDS.out]; omega)
              have e1 := hS3.1.frozen (F + r)
              have e2 := hS3.1.frozen (F + e)
              rw [HX.out] at d1
              rw [HY.out] at d2
              clear hS c1 c2 f1 f2
              generalize World.drewN _ nq = wr3 at hS3 d1 d2 e1 e2 ⊢
              go_region
              go_wp2
              go_roundg (hi - e)
              case measure => omega
              case rel =>
                refine ⟨e, swp dk (F + r) (F + e), rfl, rfl, by omega, Lib.hid (by rw [size_swp, HDS.out]), ?_, Lib.hid (by rw [← HE.out, HQ.out, if_pos (by rw [HX.out, HY.out]; exact HLT.out)])⟩
                have hsw := (hS3.swap (i := F + r) (j := F + e)).drew
                rw [HX.out, HY.out] at hsw
                exact hsw
            | false =>
              have HLT := Lib.hid hl
              clear hl
              go_wp2
              go_quiet ((go_at_call 73; exact Calls.quiet_of_same (lessN HLT.out _)))
              go_wp2
              go_end0
              exact ⟨rfl, dk, by rw [← HE.out, HQ.out, if_neg (by rw [HX.out, HY.out, HLT.out]; simp)], hS.drewN _⟩
    · have HE2 := HE.out
      rw [sd_end h0] at HE2
      go_wp2
      go_end0
      exact ⟨rfl, dk, HE2, hS⟩
end Go.Proofs.Ytcdjjodiiaahfaa
