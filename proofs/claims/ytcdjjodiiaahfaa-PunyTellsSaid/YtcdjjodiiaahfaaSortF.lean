/-
  The general sort: heapSort at []rune.
-/
import Derived.Test.YtcdjjodiiaahfaaSortE
namespace Go.Proofs.Ytcdjjodiiaahfaa
open Go.RowKit Puny Go.Shelf Go.Sort

theorem half {n : Nat} (h : 1 ≤ n) : (((n : Nat) : Int) - 1).tdiv 2 = (((n - 1) / 2 + 1 : Nat) : Int) - 1 := by
  obtain ⟨m, rfl⟩ : ∃ m, n = m + 1 := ⟨n - 1, by omega⟩
  have e : (((m + 1 : Nat) : Nat) : Int) - 1 = (m : Int) := by omega
  rw [e, Int.tdiv_eq_ediv_of_nonneg (by omega)]
  omega

set_option maxRecDepth 100000 in
set_option maxHeartbeats 4000000 in
theorem heapSort_walk (base g cap a n : Nat) (d : Array Nat) (w : World) (hw : OW base g cap d w) (hn : 1 ≤ n) (hb : a + n ≤ d.size) (hsz : d.size ≤ 1000000) :
    Calls Try.prog 68 #[.slice (some ⟨g, 0, none⟩) d.size cap, .int .i64 a, .int .i64 ((a + n : Nat) : Int)] w (Sorts base g cap (fun d' => d' = heapSort ltN d a (a + n)) w) := by
  go_enter Try.func68, Try.ntmps68
  go_upto_region 2 with fail
  go_cut [8] from 12 (fun s8 wx => s8 = .int .i64 (n : Int) ∧ SW base g cap w d wx)
  case first =>
    go_wp2_with fail
    go_meet
    exact ⟨by go_num, SW.refl hw⟩
  case rest =>
    obtain ⟨rfl, hS⟩ := hcut
    obtain ⟨K, hK⟩ : ∃ K, (n - 1) / 2 + 1 = K := ⟨_, rfl⟩
    have hKn : K ≤ n := by omega
    go_upto_region 3 with fail
    go_cut [9] from 12 (fun s9 wx => s9 = .int .i64 ((K : Int) - 1) ∧ SW base g cap w d wx)
    case first =>
      have hh := half hn
      rw [hK] at hh
      have w1 : IntKind.i64.wrap ((n : Int) - 1) = (n : Int) - 1 := IntWalk.i64_in _ (by omega)
      have w2 : IntKind.i64.wrap (((n : Int) - 1).tdiv 2) = ((n : Int) - 1).tdiv 2 := by rw [hh]; exact IntWalk.i64_in _ (by omega)
      go_wp2_with fail
      go_meet
      exact ⟨by simp, hS⟩
    case rest =>
      clear hS
      obtain ⟨rfl, hS⟩ := hcut
      have HK := Lib.hid hK
      clear hK
      go_wp2
      go_loopg [9] K (fun k s9 wr => ∃ dk : Array Nat, s9 = .int .i64 ((k : Int) - 1) ∧ k ≤ K ∧ Hid (dk.size = d.size) ∧ SW base g cap w dk wr ∧ Hid (heapBuild ltN n a k dk = heapBuild ltN n a K d))
      case atStart => exact ⟨d, rfl, Nat.le_refl _, Lib.hid rfl, hS, Lib.hid rfl⟩
      case round =>
        clear hS
        obtain ⟨dk, hs9, hk, HDS, hS, HE⟩ := hrel
        rcases gk with _ | k
        · have e0 : (((0 : Nat) : Int) - 1) = -1 := by omega
          rw [e0] at hs9
          subst hs9
          go_upto_region 7 with fail
          go_cut [10] from 12 (fun s10 wx => s10 = .int .i64 ((n : Int) - 1) ∧ SW base g cap w dk wx)
          case first =>
            have w1 : IntKind.i64.wrap ((n : Int) - 1) = (n : Int) - 1 := IntWalk.i64_in _ (by omega)
            go_wp2_with fail
            go_meet
            exact ⟨rfl, hS⟩
          case rest =>
            clear hS
            obtain ⟨rfl, hS⟩ := hcut
            have HE2 : Hid (heapPop ltN a n dk = heapSort ltN d a (a + n)) := Lib.hid (by
              have h := HE.out
              rw [hb_0] at h
              unfold heapSort
              rw [Nat.add_sub_cancel_left, HK.out, h])
            clear HE
            go_wp2
            go_loopg [10] n (fun k s10 wr => ∃ dk : Array Nat, s10 = .int .i64 ((k : Int) - 1) ∧ k ≤ n ∧ Hid (dk.size = d.size) ∧ SW base g cap w dk wr ∧ Hid (heapPop ltN a k dk = heapSort ltN d a (a + n)))
            case atStart => exact ⟨dk, rfl, Nat.le_refl _, HDS, hS, HE2⟩
            case round =>
              clear hS HDS HE2
              obtain ⟨dk, hs10, hk, HDS, hS, HE⟩ := hrel
              rcases gk with _ | k
              · rw [e0] at hs10
                subst hs10
                go_wp2
                go_end0
                exact ⟨rfl, dk, HE.out, hS⟩
              · have e1 : (((k + 1 : Nat) : Int) - 1) = (k : Int) := by omega
                rw [e1] at hs10
                subst hs10
                have wF : IntKind.i64.wrap ((a : Int) + (k : Int)) = (a : Int) + (k : Int) := IntWalk.i64_in _ (by omega)
                have hx : ∃ x, dk[a]! = x := ⟨_, rfl⟩
                obtain ⟨x, hx⟩ := hx
                have hy : ∃ y, dk[a + k]! = y := ⟨_, rfl⟩
                obtain ⟨y, hy⟩ := hy
                have c1 := hS.1.cell (i := a) (by rw [HDS.out]; omega)
                have f1 := hS.1.frozen (a)
                have c2 := hS.1.cell (i := a + k) (by rw [HDS.out]; omega)
                have f2 := hS.1.frozen (a + k)
                rw [hx] at c1
                rw [hy] at c2
                have HX := Lib.hid hx
                have HY := Lib.hid hy
                clear hx hy
                have hS2 := hS.set (a) y
                have c3 := hS2.1.cell (i := a + k) (by rw [Array.size_setIfInBounds, HDS.out]; omega)
                have f3 := hS2.1.frozen (a + k)
                generalize (Array.setIfInBounds dk (a) y)[a + k]! = z at c3
                clear hS2
                have b1 : ((a : Nat) : Int) < (d.size : Int) := by omega
                have n1 : (0 : Int) ≤ ((a : Nat) : Int) := by omega
                have b2 : ((a + k : Nat) : Int) < (d.size : Int) := by omega
                have n2 : (0 : Int) ≤ ((a + k : Nat) : Int) := by omega
                go_wp2
                go_region
                have hsw := (hS.swap (i := a) (j := a + k)).drew
                rw [HX.out, HY.out] at hsw
                clear hS c1 c2 f1 f2 c3 f3 HX HY
                generalize World.drew _ = wr3 at hsw ⊢
                have hcall := siftDown_walk base g cap 0 k a (swp dk a (a + k)) wr3 hsw.1 (by omega) (by rw [size_swp, HDS.out]; omega) (by rw [size_swp, HDS.out]; omega)
                rw [size_swp, HDS.out] at hcall
                have HC := Lib.hid hcall
                clear hcall
                go_wp2_with (first | (go_at_call 79; refine HC.out.mono ?_; rintro e w' ⟨rfl, d', rfl, hS'⟩) | fail)
                have w9 : IntKind.i64.wrap ((k : Int) - 1) = (k : Int) - 1 := IntWalk.i64_in _ (by omega)
                go_wp2
                go_roundg k
                case measure => omega
                case rel => exact ⟨_, rfl, by omega, Lib.hid (by rw [siftDown_size _ _ _ _ _ (Nat.le_refl _), size_swp, HDS.out]), hsw.trans hS', Lib.hid (by rw [← HE.out, hp_s])⟩
        · have e1 : (((k + 1 : Nat) : Int) - 1) = (k : Int) := by omega
          rw [e1] at hs9
          subst hs9
          have hcall := siftDown_walk base g cap k n a dk wr hS.1 (by omega) (by rw [HDS.out]; omega) (by rw [HDS.out]; omega)
          rw [HDS.out] at hcall
          have HC := Lib.hid hcall
          clear hcall
          have w9 : IntKind.i64.wrap ((k : Int) - 1) = (k : Int) - 1 := IntWalk.i64_in _ (by omega)
          go_wp2_with (first | (go_at_call 79; refine HC.out.mono ?_; rintro e w' ⟨rfl, d', rfl, hS'⟩) | fail)
          go_wp2
          go_roundg k
          case measure => omega
          case rel => exact ⟨_, rfl, by omega, Lib.hid (by rw [siftDown_size _ _ _ _ _ (Nat.le_refl _), HDS.out]), hS.trans hS', Lib.hid (by rw [← HE.out, hb_s])⟩

end Go.Proofs.Ytcdjjodiiaahfaa
