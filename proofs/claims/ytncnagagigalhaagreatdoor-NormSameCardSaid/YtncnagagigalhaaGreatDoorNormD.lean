/-
  norm: paired.
-/
import Derived.Test.YtncnagagigalhaaGreatDoorNormC
import Derived.Great.BuildSlice
namespace Go.Proofs.YtncnagagigalhaaGreatDoor
open Go.RowKit Norm

/-- the pair of r, if it has one -/
def pairR (r : Int) : Option (Int × Int) := (tabP.find? (fun p => p.1 == r)).map (·.2)
theorem pairR_at : ∀ i, i < 81 → pairR (wh i) = some (p1 i, p2 i) := by
  have h : (List.range 81).all (fun i => pairR (wh i) == some (p1 i, p2 i)) = true := by kernel_rfl
  intro i hi
  exact eq_of_beq (List.all_eq_true.1 h i (List.mem_range.2 hi))
theorem pairR_none {r : Int} (h : ∀ t, t < 81 → wh t ≠ r) : pairR r = none := by
  unfold pairR
  rw [Option.map_eq_none_iff, List.find?_eq_none]
  intro p hp
  obtain ⟨i, hi, rfl⟩ := List.getElem_of_mem hp
  have h81 : tabP.length = 81 := by kernel_rfl
  have := h i (by omega)
  unfold wh at this
  rw [List.getD_eq_getElem?_getD, List.getElem?_eq_getElem hi] at this
  simpa using this
theorem pairR_of {r : Int} {i : Nat} (h : At r i) (hi : i ≤ 81) : pairR r = if i < 81 ∧ wh i = r then some (p1 i, p2 i) else none := by
  split
  · rename_i hc; rw [← hc.2]; exact pairR_at i hc.1
  · rename_i hc
    refine pairR_none fun t ht he => ?_
    rcases Nat.lt_or_ge t i with hlt | hge
    · have := h.1 t hlt; omega
    · have h1 : i < 81 := by omega
      have h2 := h.2 i (Nat.le_refl _) h1
      rcases Nat.lt_or_ge i t with h3 | h3
      · have h4 := wh_rise i t h3 ht; omega
      · obtain rfl : i = t := by omega
        exact hc ⟨h1, he⟩
def pairV (r : Int) : Value := match pairR r with
  | some p => .tuple #[prt p, .bool true]
  | none => .tuple #[prt (0, 0), .bool false]

theorem box_set {w : World} {B : Nat} {a b x y : Value} {t : TypeId} (h : w.heap[B]? = some (.cells #[a, b] t (0, 0))) :
    ((w.setCell ⟨B, 0, none⟩ x).setCell ⟨B, 1, none⟩ y).heap[B]? = some (.cells #[x, y] t (0, 0)) := by
  simp [World.setCell, Array.getElem?_modify, h]
theorem res_paired {w : World} {B : Nat} {a b v : Value} {tmps : Array Value} (h : w.heap[B]? = some (.cells #[a, b] 45 (0, 0))) (t2 : tmps[2]? = some (.pointer (some ⟨B, 0, none⟩)) := by rfl) (t3 : tmps[3]? = some v := by rfl) :
    (results Tryz.f55 tmps).run Tryz.prog w = .ok (.tuple #[.agg #[a, b], v]) w := by
  obtain ⟨c0, c1, _, _⟩ := box_parts h
  simp [results, Tryz.results55, go_sem, c0, c1, t2, t3]

set_option maxRecDepth 100000 in
set_option maxHeartbeats 2000000 in
theorem paired_any (r : Int) (w : World) : Calls Tryz.prog 55 #[.int .i32 r] w (Tells (pairV r) w) := by
  have HP := Lib.hid pairs_any
  go_enter Tryz.func55, Tryz.ntmps55
  go_upto_region 1 with fail
  rename_i K0 hK0
  obtain ⟨W1, hW1⟩ : ∃ W1, w.alloc (.cells #[.int .i32 0, .int .i32 0] 45) = W1 := ⟨_, rfl⟩
  have hb1 : Below w.heap.size w W1 := by rw [← hW1]; exact (Below.refl _ w).alloc (Nat.le_refl _) _
  have hs1 : w.heap.size < W1.heap.size := by rw [← hW1]; show _ < (w.heap.push _).size; simp
  have hg1 : W1.heap[w.heap.size]? = some (.cells #[.int .i32 0, .int .i32 0] 45 (0, 0)) := by rw [← hW1]; exact heap_alloc_new w _
  rw [hW1]
  clear hW1
  obtain ⟨W2, hW2⟩ : ∃ W2, W1.alloc (.cells PC 65) = W2 := ⟨_, rfl⟩
  have hb2 : Below W1.heap.size W1 W2 := by rw [← hW2]; exact (Below.refl _ W1).alloc (Nat.le_refl _) _
  refine wp_region_list (wpList_callTo rfl _ rfl 39 #[] (by kernel_rfl) (.agg PC) W2 (by rw [← hW2]; exact HP.out W1) ?_)
  clear hW2
  obtain ⟨B, hB⟩ : ∃ B, W2.heap.size = B := ⟨_, rfl⟩
  refine wpList_straight_n 1 _ _ _ _ _ (show straight _ _ _ _ = some ({ tmps := #[.int .i32 r, undef, .pointer (some ⟨w.heap.size, 0, none⟩), .bool false, .pointer (some ⟨W2.heap.size, 0, none⟩), undef, undef, .agg PC, undef, undef, undef, undef, undef, undef, undef, undef, undef, undef, undef, undef, undef, undef, undef, undef, undef, undef], defers := [] }, W2.alloc (.cells PZ 65)) from by kernel_rfl) ?_
  refine wpList_plain rfl fun K hK => ?_
  refine wp_store_row 65 _ _ rfl W2.heap.size PC rfl rfl 65 PZ (heap_alloc_new W2 _) (by kernel_rfl) (by kernel_rfl) (by kernel_rfl) ?_
  refine hK _ _ ?_
  rw [setRow_alloc]
  have hP3 : PairsAt (W2.alloc (.cells PC 65)) B := by rw [← hB]; exact heap_alloc_new W2 _
  rw [hB]
  obtain ⟨W3, hW3⟩ : ∃ W3, W2.alloc (.cells PC 65) = W3 := ⟨_, rfl⟩
  have hb3 : Below W2.heap.size W2 W3 := by rw [← hW3]; exact (Below.refl _ W2).alloc (Nat.le_refl _) _
  rw [hW3] at hP3 ⊢
  clear hW3
  have hw3 : Below w.heap.size w W3 := (hb1.trans (hb2.mono (Nat.le_of_lt hs1))).trans (hb3.mono (Nat.le_trans (Nat.le_of_lt hs1) hb2.size))
  have hg3 : W3.heap[w.heap.size]? = some (.cells #[.int .i32 0, .int .i32 0] 45 (0, 0)) := by
    rw [hb3.block _ (Nat.lt_of_lt_of_le hs1 hb2.size), hb2.block _ hs1]; exact hg1
  have HS := Lib.hid (search_any B r W3 hP3)
  clear hb1 hb2 hb3 hg1 HP
  refine hK0 _ _ ?_
  clear hK K hK0 K0
  show Code.wp _ _ _ { tmps := #[.int .i32 r, undef, .pointer (some ⟨w.heap.size, 0, none⟩), .bool false, .pointer (some ⟨B, 0, none⟩), undef, undef, .agg PC, undef, undef, undef, undef, undef, undef, undef, undef, undef, undef, undef, undef, undef, undef, undef, undef, undef, undef], defers := [] } W3
  go_upto_region 3 with (first | (go_at_call 66; refine HS.out.mono ?_; rintro e w4 ⟨i, hi, hAt, rfl, hb4⟩) | fail)
  have hP4 := hP3.below hb4
  have hw4 : Below w.heap.size w w4 := hw3.trans (hb4.mono hw3.size)
  have hg4 : w4.heap[w.heap.size]? = some (.cells #[.int .i32 0, .int .i32 0] 45 (0, 0)) := by
    rw [hb4.block _ (Array.getElem?_eq_some_iff.1 hg3).1]; exact hg3
  obtain ⟨c0, c1, f0, f1⟩ := box_parts hg4
  have HV := Lib.hid (pairR_of hAt hi)
  clear hP3 hw3 hg3 hb4 HS hAt
  by_cases hc : i < 81 ∧ wh i = r
  · have HE : Hid (pairV r = .tuple #[prt (p1 i, p2 i), .bool true]) := Lib.hid (by unfold pairV; rw [HV.out, if_pos hc])
    obtain ⟨q0, q1, q2⟩ := hP4.cells hc.1
    have h81 : (i : Int) < 81 := by omega
    clear HV hP4
    rw [show (decide (i < 81) && decide (wh i = r)) = true from by simp [hc.1, hc.2]]
    go_wp2_with fail
    go_region
    go_wp2_with fail
    refine bodyPost_ret (res_paired (B := w.heap.size) (a := .int .i32 (p1 i)) (b := .int .i32 (p2 i)) (by exact box_set hg4)) rfl ?_
    exact ⟨by rw [HE.out]; rfl, ((hw4.setCell (Nat.le_refl _) _).setCell (Nat.le_refl _) _).drew⟩
  · have HE : Hid (pairV r = .tuple #[prt (0, 0), .bool false]) := Lib.hid (by unfold pairV; rw [HV.out, if_neg hc])
    clear HV hP4
    rw [show (decide (i < 81) && decide (wh i = r)) = false from by rw [← Bool.decide_and]; exact decide_eq_false hc]
    go_wp2_with fail
    refine bodyPost_ret (res_paired (box_set hg4)) rfl ?_
    exact ⟨by rw [HE.out]; rfl, (hw4.setCell (Nat.le_refl _) _).setCell (Nat.le_refl _) _⟩
end Go.Proofs.YtncnagagigalhaaGreatDoor
