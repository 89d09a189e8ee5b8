/-
  The general sort: reverseRange, siftDown, heapSort at []rune.
-/
import Derived.Test.YtcdjjodiiaahfaaSortC
import Derived.Deep.DeepCutAuto
import Derived.Deep.LoopGhost
namespace Go.Proofs.Ytcdjjodiiaahfaa
open Go.RowKit Puny Go.Shelf Go.Sort

set_option maxRecDepth 100000 in
set_option maxHeartbeats 2000000 in
theorem reverseRange_walk (base g cap a b : Nat) (d : Array Nat) (w : World) (hw : OW base g cap d w) (hab : a < b) (hb : b ≤ d.size) (hsz : d.size ≤ 1000000) :
    Calls Try.prog 71 #[.slice (some ⟨g, 0, none⟩) d.size cap, .int .i64 a, .int .i64 b] w (Sorts base g cap (fun d' => d' = reverseRange d a b) w) := by
  have hb1 : (1 : Int) ≤ (b : Int) := by omega
  go_enter Try.func71, Try.ntmps71
  go_wp2
  go_loopw [6, 7] (fun s6 s7 wr => ∃ (i j : Nat) (dk : Array Nat), s6 = .int .i64 i ∧ s7 = .int .i64 j ∧ a ≤ i ∧ i ≤ b ∧ j < b ∧ Hid (dk.size = d.size) ∧ SW base g cap w dk wr ∧ Hid (reverseLoop i j dk = reverseRange d a b)) (fun s6 _ _ => b - (intOf s6).toNat)
  case atStart => exact ⟨a, b - 1, d, by go_num, by go_num, Nat.le_refl _, by omega, by omega, Lib.hid rfl, SW.refl hw, Lib.hid rfl⟩
  case round =>
    obtain ⟨i, j, dk, rfl, rfl, hi1, hi2, hj1, HDS, hS, HE⟩ := hrel
    by_cases hlt : i < j
    · have d1 := hS.1.cell (i := i) (by rw [HDS.out]; omega)
      have d2 := hS.1.cell (i := j) (by rw [HDS.out]; omega)
      have e1 := hS.1.frozen i
      have e2 := hS.1.frozen j
      obtain ⟨x, hx⟩ : ∃ x, dk[i]! = x := ⟨_, rfl⟩
      obtain ⟨y, hy⟩ : ∃ y, dk[j]! = y := ⟨_, rfl⟩
      rw [hx] at d1
      rw [hy] at d2
      have HX := Lib.hid hx
      have HY := Lib.hid hy
      clear hx hy
      have b1 : (i : Int) < (d.size : Int) := by omega
      have b2 : (j : Int) < (d.size : Int) := by omega
      have b3 : (0 : Int) ≤ (i : Int) := by omega
      have b4 : (0 : Int) ≤ (j : Int) := by omega
      go_wp2
      go_region
      go_wp2
      go_roundw
      case rel =>
        refine ⟨i + 1, j - 1, swp dk i j, by go_num, by go_num, by omega, by omega, by omega, Lib.hid (by rw [size_swp, HDS.out]), ?_, Lib.hid (by rw [← HE.out, rv_go hlt])⟩
        have hsw := (hS.swap (i := i) (j := j)).drew
        rw [HX.out, HY.out] at hsw
        exact hsw
      case measure => first | (simp [intOf]; done) | (simp [intOf]; omega)
    · have HE2 := HE.out
      rw [rv_end hlt] at HE2
      go_wp2
      go_end0
      exact ⟨rfl, dk, HE2, hS⟩
end Go.Proofs.Ytcdjjodiiaahfaa
