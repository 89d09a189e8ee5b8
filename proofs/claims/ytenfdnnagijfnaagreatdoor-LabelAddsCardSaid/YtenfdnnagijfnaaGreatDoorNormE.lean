import Derived.Test.YtenfdnnagijfnaaGreatDoorNormC
import Derived.Great.BuildSlice
/-
  norm: paired.
-/
namespace Go.Proofs.YtenfdnnagijfnaaGreatDoor
open Go.RowKit Norm

/-- the pair of r, if it has one -/
def pairR (r : Int) : Option (Int × Int) := (tabP.find? (fun p => p.1 == r)).map (·.2)
theorem pairR_at : ∀ i, i < 81 → pairR (wh i) = some (p1 i, p2 i) := by
  have h : (List.range 81).all (fun i => pairR (wh i) == some (p1 i, p2 i)) = true := by kernel_rfl
  intro i hi
  exact eq_of_beq (List.all_eq_true.1 h i (List.mem_range.2 hi))
theorem pairR_none {r : Int} (h : ∀ t, t < 81 → wh t ≠ r) : pairR r = none := by
  unfold pairR
  rw [Option.map_eq_none_iff, List.find?_eq_none]
  intro p hp
  obtain ⟨i, hi, rfl⟩ := List.getElem_of_mem hp
  have h81 : tabP.length = 81 := by kernel_rfl
  have := h i (by omega)
  unfold wh at this
  rw [List.getD_eq_getElem?_getD, List.getElem?_eq_getElem hi] at this
  simpa using this
theorem pairR_of {r : Int} {i : Nat} (h : At r i) (hi : i ≤ 81) : pairR r = if i < 81 ∧ wh i = r then some (p1 i, p2 i) else none := by
  split
  · rename_i hc; rw [← hc.2]; exact pairR_at i hc.1
  · rename_i hc
    refine pairR_none fun t ht he => ?_
    rcases Nat.lt_or_ge t i with hlt | hge
    · have := h.1 t hlt; omega
    · have h1 : i < 81 := by omega
      have h2 := h.2 i (Nat.le_refl _) h1
      rcases Nat.lt_or_ge i t with h3 | h3
      · have h4 := wh_rise i t h3 ht; omega
      · obtain rfl : i = t := by omega
        exact hc ⟨h1, he⟩
def pairV (r : Int) : Value := match pairR r with
  | some p => .tuple #[prt p, .bool true]
  | none => .tuple #[prt (0, 0), .bool false]

theorem box_set {w : World} {B : Nat} {a b x y : Value} {t : TypeId} (h : w.heap[B]? = some (.cells #[a, b] t (0, 0))) :
    ((w.setCell ⟨B, 0, none⟩ x).setCell ⟨B, 1, none⟩ y).heap[B]? = some (.cells #[x, y] t (0, 0)) := by
  simp [World.setCell, Array.getElem?_modify, h]
theorem res_paired {w : World} {B : Nat} {a b v : Value} {tmps : Array Value} (h : w.heap[B]? = some (.cells #[a, b] 52 (0, 0))) (t2 : tmps[2]? = some (.pointer (some ⟨B, 0, none⟩)) := by rfl) (t3 : tmps[3]? = some v := by rfl) :
    (results Tryz.f88 tmps).run Tryz.prog w = .ok (.tuple #[.agg #[a, b], v]) w := by
  obtain ⟨c0, c1, _, _⟩ := box_parts h
  simp [results, Tryz.results88, go_sem, c0, c1, t2, t3]

set_option maxRecDepth 100000 in
set_option maxHeartbeats 2000000 in
theorem paired_any (r : Int) (w : World) : Calls Tryz.prog 88 #[.int .i32 r] w (Tells (pairV r) w) := by
  have HP := Lib.hid pairs_any
  go_enter Tryz.func88, Tryz.ntmps88
  go_upto_region 1 with fail
  rename_i K0 hK0
  obtain ⟨W1, hW1⟩ : ∃ W1, w.alloc (.cells #[.int .i32 0, .int .i32 0] 52) = W1 := ⟨_, rfl⟩
  have hb1 : Below w.heap.size w W1 := by rw [← hW1]; exact (Below.refl _ w).alloc (Nat.le_refl _) _
  have hs1 : w.heap.size < W1.heap.size := by rw [← hW1]; show _ < (w.heap.push _).size; simp
  have hg1 : W1.heap[w.heap.size]? = some (.cells #[.int .i32 0, .int .i32 0] 52 (0, 0)) := by rw [← hW1]; exact heap_alloc_new w _
  rw [hW1]
  clear hW1
  obtain ⟨W2, hW2⟩ : ∃ W2, W1.alloc (.cells PC 79) = W2 := ⟨_, rfl⟩
  have hb2 : Below W1.heap.size W1 W2 := by rw [← hW2]; exact (Below.refl _ W1).alloc (Nat.le_refl _) _
  refine wp_region_list (wpList_callTo rfl _ rfl 56 #[] (by kernel_rfl) (.agg PC) W2 (by rw [← hW2]; exact HP.out W1) ?_)
  clear hW2
  obtain ⟨B, hB⟩ : ∃ B, W2.heap.size = B := ⟨_, rfl⟩
  refine wpList_straight_n 1 _ _ _ _ _ (show straight _ _ _ _ = some ({ tmps := #[.int .i32 r, undef, .pointer (some ⟨w.heap.size, 0, none⟩), .bool false, .pointer (some ⟨W2.heap.size, 0, none⟩), undef, undef, .agg PC, undef, undef, undef, undef, undef, undef, undef, undef, undef, undef, undef, undef, undef, undef, undef, undef, undef, undef], defers := [] }, W2.alloc (.cells PZ 79)) from by kernel_rfl) ?_
  refine wpList_plain rfl fun K hK => ?_
  refine wp_store_row 79 _ _ rfl W2.heap.size PC rfl rfl 79 PZ (heap_alloc_new W2 _) (by kernel_rfl) (by kernel_rfl) (by kernel_rfl) ?_
  refine hK _ _ ?_
  rw [setRow_alloc]
  have hP3 : PairsAt (W2.alloc (.cells PC 79)) B := by rw [← hB]; exact heap_alloc_new W2 _
  rw [hB]
  obtain ⟨W3, hW3⟩ : ∃ W3, W2.alloc (.cells PC 79) = W3 := ⟨_, rfl⟩
  have hb3 : Below W2.heap.size W2 W3 := by rw [← hW3]; exact (Below.refl _ W2).alloc (Nat.le_refl _) _
  rw [hW3] at hP3 ⊢
  clear hW3
  have hw3 : Below w.heap.size w W3 := (hb1.trans (hb2.mono (Nat.le_of_lt hs1))).trans (hb3.mono (Nat.le_trans (Nat.le_of_lt hs1) hb2.size))
  have hg3 : W3.heap[w.heap.size]? = some (.cells #[.int .i32 0, .int .i32 0] 52 (0, 0)) := by
    rw [hb3.block _ (Nat.lt_of_lt_of_le hs1 hb2.size), hb2.block _ hs1]; exact hg1
  have HS := Lib.hid (search_any B r W3 hP3)
  clear hb1 hb2 hb3 hg1 HP
  refine hK0 _ _ ?_
  clear hK K hK0 K0
  show Code.wp _ _ _ { tmps := #[.int .i32 r, undef, .pointer (some ⟨w.heap.size, 0, none⟩), .bool false, .pointer (some ⟨B, 0, none⟩), undef, undef, .agg PC, undef, undef, undef, undef, undef, undef, undef, undef, undef, undef, undef, undef, undef, undef, undef, undef, undef, undef], defers := [] } W3
  go_upto_region 3 with (first | (go_at_call 110; refine HS.out.mono ?_; rintro e w4 ⟨i, hi, hAt, rfl, hb4⟩) | fail)
  have hP4 := hP3.below hb4
  have hw4 : Below w.heap.size w w4 := hw3.trans (hb4.mono hw3.size)
  have hg4 : w4.heap[w.heap.size]? = some (.cells #[.int .i32 0, .int .i32 0] 52 (0, 0)) := by
    rw [hb4.block _ (Array.getElem?_eq_some_iff.1 hg3).1]; exact hg3
  obtain ⟨c0, c1, f0, f1⟩ := box_parts hg4
  have HV := Lib.hid (pairR_of hAt hi)
  clear hP3 hw3 hg3 hb4 HS hAt
  by_cases hc : i < 81 ∧ wh i = r
  · have HE : Hid (pairV r = .tuple #[prt (p1 i, p2 i), .bool true]) := Lib.hid (by unfold pairV; rw [HV.out, if_pos hc])
    obtain ⟨q0, q1, q2⟩ := hP4.cells hc.1
    have h81 : (i : Int) < 81 := by omega
    clear HV hP4
    rw [show (decide (i < 81) && decide (wh i = r)) = true from by simp [hc.1, hc.2]]
    go_wp2_with fail
    go_region
    go_wp2_with fail
    refine bodyPost_ret (res_paired (B := w.heap.size) (a := .int .i32 (p1 i)) (b := .int .i32 (p2 i)) (by exact box_set hg4)) rfl ?_
    exact ⟨by rw [HE.out]; rfl, ((hw4.setCell (Nat.le_refl _) _).setCell (Nat.le_refl _) _).drew⟩
  · have HE : Hid (pairV r = .tuple #[prt (0, 0), .bool false]) := Lib.hid (by unfold pairV; rw [HV.out, if_neg hc])
    clear HV hP4
    rw [show (decide (i < 81) && decide (wh i = r)) = false from by rw [← Bool.decide_and]; exact decide_eq_false hc]
    go_wp2_with fail
    refine bodyPost_ret (res_paired (box_set hg4)) rfl ?_
    exact ⟨by rw [HE.out]; rfl, (hw4.setCell (Nat.le_refl _) _).setCell (Nat.le_refl _) _⟩
end Go.Proofs.YtenfdnnagijfnaaGreatDoor

/-
  norm: split.
-/
namespace Go.Proofs.YtenfdnnagijfnaaGreatDoor
open Go.RowKit Norm

/-- the two that r is composed of -/
def spl (r : Int) : Option (Int × Int) := if syl r = true then some (sylParts r) else pairR r
def optV : Option (Int × Int) → Value
  | some p => .tuple #[.agg #[.int .i32 p.1, .int .i32 p.2], .bool true]
  | none => .tuple #[.agg #[.int .i32 0, .int .i32 0], .bool false]
theorem pairV_opt (r : Int) : pairV r = optV (pairR r) := by unfold pairV; cases pairR r <;> rfl

theorem res_split {w : World} {B : Nat} {a b v : Value} {tmps : Array Value} (h : w.heap[B]? = some (.cells #[a, b] 52 (0, 0))) (t2 : tmps[2]? = some (.pointer (some ⟨B, 0, none⟩)) := by rfl) (t3 : tmps[3]? = some v := by rfl) :
    (results Tryz.f58 tmps).run Tryz.prog w = .ok (.tuple #[.agg #[a, b], v]) w := by
  obtain ⟨c0, c1, _, _⟩ := box_parts h
  simp [results, Tryz.results58, go_sem, c0, c1, t2, t3]

theorem kept_box {w w4 : World} {a b : Value} {t : TypeId} (h : Below (w.alloc (.cells #[a, b] t)).heap.size (w.alloc (.cells #[a, b] t)) w4) :
    w4.heap[w.heap.size]? = some (.cells #[a, b] t (0, 0)) ∧ Below w.heap.size w w4 := by
  have hn := alloc_heap_new' w (.cells #[a, b] t)
  refine ⟨(h.block _ (Array.getElem?_eq_some_iff.1 hn).1).trans hn, ?_⟩
  have h1 : Below w.heap.size w (w.alloc (.cells #[a, b] t)) := (Below.refl _ w).alloc (Nat.le_refl _) _
  exact h1.trans (h.mono h1.size)
theorem alloc_old {w : World} {B : Nat} {o : Obj} (o' : Obj) (h : w.heap[B]? = some o) : (w.alloc o').heap[B]? = some o := by
  rw [Below.heap_alloc _ _ _ (Array.getElem?_eq_some_iff.1 h).1]; exact h
theorem below_old {w w' : World} {B : Nat} {o : Obj} (h : w.heap[B]? = some o) (hb : Below w.heap.size w w') : w'.heap[B]? = some o :=
  (hb.block _ (Array.getElem?_eq_some_iff.1 h).1).trans h

set_option maxRecDepth 100000 in
set_option maxHeartbeats 2000000 in
theorem split_any (r : Int) (w : World) (h0 : -2147483648 ≤ r) (h1 : r ≤ 2147483647) : Calls Tryz.prog 58 #[.int .i32 r] w (Tells (optV (spl r)) w) := by
  cases hs : syl r with
  | true =>
    have HS := Lib.hid (fun w => by have h := syllable_any r w h0 h1; rw [sylV_yes hs rfl] at h; exact h)
    have HE : Hid (optV (spl r) = .tuple #[.agg #[.int .i32 (sylParts r).1, .int .i32 (sylParts r).2], .bool true]) := Lib.hid (by unfold spl; rw [if_pos hs]; rfl)
    unfold prt at HS
    generalize (sylParts r).1 = x at HS HE
    generalize (sylParts r).2 = y at HS HE
    clear hs
    go_enter Tryz.func58, Tryz.ntmps58
    go_wp2_with (first | (go_at_call 87; refine (HS.out _).mono ?_; rintro e w4 ⟨rfl, hb4⟩; obtain ⟨hg4, hw4⟩ := kept_box hb4; clear hb4; have hg5 := alloc_old (.cells #[.int .i32 x, .int .i32 y] 52) hg4; obtain ⟨c0, c1, f0, f1⟩ := box_parts hg5) | fail)
    refine bodyPost_ret (res_split (box_set hg5)) rfl ?_
    exact ⟨by rw [HE.out]; rfl, ((hw4.alloc hw4.size _).setCell (Nat.le_refl _) _).setCell (Nat.le_refl _) _⟩
  | false =>
    have HS := Lib.hid (fun w => by have h := syllable_any r w h0 h1; rw [sylV_no hs] at h; exact h)
    have HP := Lib.hid (fun w => by have h := paired_any r w; rw [pairV_opt] at h; exact h)
    have HE : Hid (spl r = pairR r) := Lib.hid (by unfold spl; rw [if_neg (by rw [hs]; exact Bool.false_ne_true)])
    rw [HE.out]
    clear HE
    unfold prt at HS
    obtain ⟨x, y, b, hv⟩ : ∃ x y b, optV (pairR r) = .tuple #[.agg #[.int .i32 x, .int .i32 y], .bool b] := by cases pairR r <;> exact ⟨_, _, _, rfl⟩
    rw [hv] at HP ⊢
    clear hv hs
    go_enter Tryz.func58, Tryz.ntmps58
    go_wp2_with (first | (go_at_call 87; refine (HS.out _).mono ?_; rintro e w4 ⟨rfl, hb4⟩; obtain ⟨hg4, hw4⟩ := kept_box hb4; clear hb4; have hg5 := alloc_old (.cells #[.int .i32 0, .int .i32 0] 52) hg4) | (go_at_call 88; refine (HP.out _).mono ?_; rintro e w5 ⟨rfl, hb5⟩; have hg6 := below_old hg5 hb5; obtain ⟨c0, c1, f0, f1⟩ := box_parts hg6) | fail)
    refine bodyPost_ret (res_split (box_set hg6)) rfl ?_
    have hw5 := hw4.alloc hw4.size (.cells #[.int .i32 0, .int .i32 0] 52)
    exact ⟨rfl, ((hw5.trans (hb5.mono hw5.size)).setCell (Nat.le_refl _) _).setCell (Nat.le_refl _) _⟩
end Go.Proofs.YtenfdnnagijfnaaGreatDoor
