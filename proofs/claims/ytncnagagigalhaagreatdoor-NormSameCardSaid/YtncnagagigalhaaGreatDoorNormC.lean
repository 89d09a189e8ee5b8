/-
  norm: cmp.Compare at code points; the pairs in order; which pair a code point is.
-/
import Derived.Test.YtncnagagigalhaaGreatDoorNormB
import Derived.Deep.DeepCutAuto
import Derived.Deep.LoopGhost
namespace Go.Proofs.YtncnagagigalhaaGreatDoor
open Go.RowKit Norm

def cmpZ (x y : Int) : Int := if x < y then -1 else if y < x then 1 else 0
theorem cmpR_any (x y : Int) (w : World) : Calls Tryz.prog 68 #[.int .i32 x, .int .i32 y] w (Gives (.int .i64 (cmpZ x y)) w) := by
  by_cases h1 : x < y
  · have HC : Hid (cmpZ x y = -1) := Lib.hid (by unfold cmpZ; rw [if_pos h1])
    go_enter Tryz.func68, Tryz.ntmps68
    go_wp2
    go_ret
    exact ⟨by rw [HC.out]; rfl, rfl⟩
  · by_cases h2 : y < x
    · have HC : Hid (cmpZ x y = 1) := Lib.hid (by unfold cmpZ; rw [if_neg h1, if_pos h2])
      go_enter Tryz.func68, Tryz.ntmps68
      go_wp2
      go_ret
      exact ⟨by rw [HC.out]; rfl, rfl⟩
    · have HC : Hid (cmpZ x y = 0) := Lib.hid (by unfold cmpZ; rw [if_neg h1, if_neg h2])
      go_enter Tryz.func68, Tryz.ntmps68
      go_wp2
      go_ret
      exact ⟨by rw [HC.out]; rfl, rfl⟩

theorem pairCmp_any (a b c r : Int) (w : World) : Calls Tryz.prog 67 #[.agg #[.int .i32 a, .int .i32 b, .int .i32 c], .int .i32 r] w (Tells (.int .i64 (cmpZ a r)) w) := by
  have HC := Lib.hid (fun w => cmpR_any a r w)
  go_enter Tryz.func67, Tryz.ntmps67
  go_wp2_with (first | (go_at_call 68; refine (HC.out _).mono ?_; rintro e w' ⟨rfl, rfl⟩) | fail)
  go_ret
  exact tells_alloc _ rfl

/-- the pairs lie in block B -/
def PairsAt (w : World) (B : Nat) : Prop := w.heap[B]? = some (.cells PC 65 (0, 0))
theorem PairsAt.below {w w' : World} {B : Nat} (h : PairsAt w B) (hb : Below w.heap.size w w') : PairsAt w' B := (hb.block B (Array.getElem?_eq_some_iff.1 h).1).trans h
/-- a pair's whole -/
def wh (i : Nat) : Int := (tabP.getD i (0, 0, 0)).1
def p1 (i : Nat) : Int := (tabP.getD i (0, 0, 0)).2.1
def p2 (i : Nat) : Int := (tabP.getD i (0, 0, 0)).2.2
theorem pairs_cells : ∀ i, i < 81 → PC[3 * i]? = some (.int .i32 (wh i)) ∧ PC[3 * i + 1]? = some (.int .i32 (p1 i)) ∧ PC[3 * i + 2]? = some (.int .i32 (p2 i)) := by
  have h : ∀ i ∈ List.range 81, PC[3 * i]? = some (.int .i32 (wh i)) ∧ PC[3 * i + 1]? = some (.int .i32 (p1 i)) ∧ PC[3 * i + 2]? = some (.int .i32 (p2 i)) := by
    have hb : (List.range 81).all (fun i => (match PC[3 * i]? with | some (.int .i32 n) => n == wh i | _ => false) && (match PC[3 * i + 1]? with | some (.int .i32 n) => n == p1 i | _ => false) && (match PC[3 * i + 2]? with | some (.int .i32 n) => n == p2 i | _ => false)) = true := by kernel_rfl
    intro i hi
    have := List.all_eq_true.1 hb i hi
    simp only [Bool.and_eq_true] at this
    obtain ⟨⟨h1, h2⟩, h3⟩ := this
    refine ⟨?_, ?_, ?_⟩
    · split at h1
      · rename_i n hn; rw [hn, eq_of_beq h1]
      · cases h1
    · split at h2
      · rename_i n hn; rw [hn, eq_of_beq h2]
      · cases h2
    · split at h3
      · rename_i n hn; rw [hn, eq_of_beq h3]
      · cases h3
  exact fun i hi => h i (List.mem_range.2 hi)
theorem wh_rise : ∀ i j, i < j → j < 81 → wh i < wh j := by
  have h : (List.range 81).all (fun j => (List.range j).all fun i => decide (wh i < wh j)) = true := by kernel_rfl
  intro i j hij hj
  have h1 := List.all_eq_true.1 h j (List.mem_range.2 hj)
  have h2 := List.all_eq_true.1 h1 i (List.mem_range.2 hij)
  simpa using h2
theorem PairsAt.cells {w : World} {B i : Nat} (h : PairsAt w B) (hi : i < 81) : w.cell? ⟨B, i * 3, none⟩ = some (.int .i32 (wh i)) ∧ w.cell? ⟨B, i * 3 + 1, none⟩ = some (.int .i32 (p1 i)) ∧ w.cell? ⟨B, i * 3 + 2, none⟩ = some (.int .i32 (p2 i)) := by
  rw [Nat.mul_comm i 3]
  obtain ⟨h1, h2, h3⟩ := pairs_cells i hi
  exact ⟨by rw [cell_of_row w B _ PC _ _ h]; exact h1, by rw [cell_of_row w B _ PC _ _ h]; exact h2, by rw [cell_of_row w B _ PC _ _ h]; exact h3⟩

/-- the place where r is looked for -/
def At (r : Int) (i : Nat) : Prop := (∀ t, t < i → wh t < r) ∧ ∀ t, i ≤ t → t < 81 → r ≤ wh t
def Found (r : Int) (w : World) (e : Ending) (w' : World) : Prop := ∃ i : Nat, i ≤ 81 ∧ At r i ∧ e = .returned (.tuple #[.int .i64 (i : Int), .bool (decide (i < 81 ∧ wh i = r))]) ∧ Below w.heap.size w w'

set_option maxRecDepth 100000 in
set_option maxHeartbeats 2000000 in
theorem search_any (B : Nat) (r : Int) (w : World) (hP : PairsAt w B) :
    Calls Tryz.prog 66 #[.slice (some ⟨B, 0, none⟩) 81 81, .int .i32 r, .func (.func 67) #[] #[]] w (Found r w) := by
  go_enter Tryz.func66, Tryz.ntmps66
  go_wp2
  go_loopg [9, 10] 81 (fun k s9 s10 wr => ∃ i j : Nat, s9 = .int .i64 (i : Int) ∧ s10 = .int .i64 (j : Int) ∧ k = j - i ∧ i ≤ j ∧ j ≤ 81 ∧ Hid (∀ t, t < i → wh t < r) ∧ Hid (∀ t, j ≤ t → t < 81 → r ≤ wh t) ∧ Below w.heap.size w wr)
  case atStart => exact ⟨0, 81, rfl, rfl, rfl, by omega, by omega, Lib.hid (fun t ht => by omega), Lib.hid (fun t h1 h2 => by omega), Below.refl _ _⟩
  case round =>
    obtain ⟨i, j, rfl, rfl, rfl, hij, hj, H1, H2, hB⟩ := hrel
    by_cases hlt : i < j
    · obtain ⟨m, hm⟩ : ∃ m, m = (i + j) / 2 := ⟨_, rfl⟩
      have hmi : i ≤ m := by omega
      have hmj : m < j := by omega
      have hcast : ((i : Int) + (j : Int)) / 2 = (m : Int) := by omega
      clear hm
      go_upto_region 4 with fail
      go_cut [11] from 15 to 34 (fun s11 wx => s11 = .int .i64 (m : Int) ∧ wx = wr)
      case first =>
        go_wp2_with fail
        go_meet
        exact ⟨by first | rfl | go_num, rfl⟩
      case rest =>
        obtain ⟨rfl, hwc⟩ := hcut
        rw [hwc]
        clear hwc hcast
        have hPr := hP.below hB
        obtain ⟨c0, c1, c2⟩ := hPr.cells (i := m) (by omega)
        have hm81 : (m : Int) < 81 := by omega
        have HPC := Lib.hid (pairCmp_any (wh m) (p1 m) (p2 m) r wr)
        by_cases hwm : wh m < r
        · have hz : cmpZ (wh m) r < 0 := by unfold cmpZ; rw [if_pos hwm]; omega
          go_wp2_with (first | (go_at_call 67; refine HPC.out.mono ?_; rintro e w2 ⟨rfl, hB2⟩) | fail)
          go_roundg (j - (m + 1))
          case measure => omega
          case rel => exact ⟨m + 1, j, by go_num, rfl, rfl, by omega, by omega, Lib.hid (fun t ht => by
            rcases Nat.lt_or_ge t m with h | h
            · exact Int.lt_trans (wh_rise t m h (by omega)) hwm
            · obtain rfl : t = m := by omega
              exact hwm), H2, hB.trans (hB2.mono hB.size)⟩
        · have hz : ¬ cmpZ (wh m) r < 0 := by unfold cmpZ; rw [if_neg hwm]; split <;> omega
          go_wp2_with (first | (go_at_call 67; refine HPC.out.mono ?_; rintro e w2 ⟨rfl, hB2⟩) | fail)
          go_roundg (m - i)
          case measure => omega
          case rel => exact ⟨i, m, rfl, rfl, rfl, by omega, by omega, H1, Lib.hid (fun t h1 h2 => by
            rcases Nat.lt_or_ge m t with h | h
            · exact Int.le_of_lt (Int.lt_of_le_of_lt (hwm) (wh_rise m t h h2))
            · obtain rfl : t = m := by omega
              exact hwm), hB.trans (hB2.mono hB.size)⟩
    · obtain rfl : i = j := by omega
      have HAt : Hid (At r i) := Lib.hid ⟨H1.out, H2.out⟩
      have hPr := hP.below hB
      by_cases h81 : i < 81
      · obtain ⟨c0, c1, c2⟩ := hPr.cells (i := i) h81
        have h81z : (i : Int) < 81 := by omega
        have HPC := Lib.hid (pairCmp_any (wh i) (p1 i) (p2 i) r wr)
        have hge : r ≤ wh i := H2.out i (Nat.le_refl _) h81
        have HB2 : Hid ((cmpZ (wh i) r == 0) = decide (i < 81 ∧ wh i = r)) := Lib.hid (by
          unfold cmpZ
          rw [if_neg (by omega)]
          by_cases he : wh i = r
          · rw [if_neg (by omega), decide_eq_true ⟨h81, he⟩]; rfl
          · rw [if_pos (by omega), decide_eq_false (fun h => he h.2)]; rfl)
        clear H1 H2 hP hPr hge
        go_wp2_with (first | (go_at_call 67; refine HPC.out.mono ?_; rintro e w2 ⟨rfl, hB2⟩) | fail)
        go_ret2
        exact ⟨i, by omega, HAt.out, by rw [HB2.out]; rfl, hB.trans (hB2.mono hB.size)⟩
      · have h81z : ¬ (i : Int) < 81 := by omega
        go_wp2_with fail
        go_ret2
        exact ⟨i, by omega, HAt.out, by rw [decide_eq_false (fun h => h81 h.1)]; rfl, hB⟩
end Go.Proofs.YtncnagagigalhaaGreatDoor
