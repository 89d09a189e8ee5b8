/-
  norm: split.
-/
import Derived.Test.YtncnagagigalhaaGreatDoorNormD
namespace Go.Proofs.YtncnagagigalhaaGreatDoor
open Go.RowKit Norm

/-- the two that r is composed of -/
def spl (r : Int) : Option (Int × Int) := if syl r = true then some (sylParts r) else pairR r
def optV : Option (Int × Int) → Value
  | some p => .tuple #[.agg #[.int .i32 p.1, .int .i32 p.2], .bool true]
  | none => .tuple #[.agg #[.int .i32 0, .int .i32 0], .bool false]
theorem pairV_opt (r : Int) : pairV r = optV (pairR r) := by unfold pairV; cases pairR r <;> rfl

theorem res_split {w : World} {B : Nat} {a b v : Value} {tmps : Array Value} (h : w.heap[B]? = some (.cells #[a, b] 45 (0, 0))) (t2 : tmps[2]? = some (.pointer (some ⟨B, 0, none⟩)) := by rfl) (t3 : tmps[3]? = some v := by rfl) :
    (results Tryz.f41 tmps).run Tryz.prog w = .ok (.tuple #[.agg #[a, b], v]) w := by
  obtain ⟨c0, c1, _, _⟩ := box_parts h
  simp [results, Tryz.results41, go_sem, c0, c1, t2, t3]

theorem kept_box {w w4 : World} {a b : Value} {t : TypeId} (h : Below (w.alloc (.cells #[a, b] t)).heap.size (w.alloc (.cells #[a, b] t)) w4) :
    w4.heap[w.heap.size]? = some (.cells #[a, b] t (0, 0)) ∧ Below w.heap.size w w4 := by
  have hn := alloc_heap_new' w (.cells #[a, b] t)
  refine ⟨(h.block _ (Array.getElem?_eq_some_iff.1 hn).1).trans hn, ?_⟩
  have h1 : Below w.heap.size w (w.alloc (.cells #[a, b] t)) := (Below.refl _ w).alloc (Nat.le_refl _) _
  exact h1.trans (h.mono h1.size)
theorem alloc_old {w : World} {B : Nat} {o : Obj} (o' : Obj) (h : w.heap[B]? = some o) : (w.alloc o').heap[B]? = some o := by
  rw [Below.heap_alloc _ _ _ (Array.getElem?_eq_some_iff.1 h).1]; exact h
theorem below_old {w w' : World} {B : Nat} {o : Obj} (h : w.heap[B]? = some o) (hb : Below w.heap.size w w') : w'.heap[B]? = some o :=
  (hb.block _ (Array.getElem?_eq_some_iff.1 h).1).trans h

set_option maxRecDepth 100000 in
set_option maxHeartbeats 2000000 in
theorem split_any (r : Int) (w : World) (h0 : -2147483648 ≤ r) (h1 : r ≤ 2147483647) : Calls Tryz.prog 41 #[.int .i32 r] w (Tells (optV (spl r)) w) := by
  cases hs : syl r with
  | true =>
    have HS := Lib.hid (fun w => by have h := syllable_any r w h0 h1; rw [sylV_yes hs rfl] at h; exact h)
    have HE : Hid (optV (spl r) = .tuple #[.agg #[.int .i32 (sylParts r).1, .int .i32 (sylParts r).2], .bool true]) := Lib.hid (by unfold spl; rw [if_pos hs]; rfl)
    unfold prt at HS
    generalize (sylParts r).1 = x at HS HE
    generalize (sylParts r).2 = y at HS HE
    clear hs
    go_enter Tryz.func41, Tryz.ntmps41
    go_wp2_with (first | (go_at_call 54; refine (HS.out _).mono ?_; rintro e w4 ⟨rfl, hb4⟩; obtain ⟨hg4, hw4⟩ := kept_box hb4; clear hb4; have hg5 := alloc_old (.cells #[.int .i32 x, .int .i32 y] 45) hg4; obtain ⟨c0, c1, f0, f1⟩ := box_parts hg5) | fail)
    refine bodyPost_ret (res_split (box_set hg5)) rfl ?_
    exact ⟨by rw [HE.out]; rfl, ((hw4.alloc hw4.size _).setCell (Nat.le_refl _) _).setCell (Nat.le_refl _) _⟩
  | false =>
    have HS := Lib.hid (fun w => by have h := syllable_any r w h0 h1; rw [sylV_no hs] at h; exact h)
    have HP := Lib.hid (fun w => by have h := paired_any r w; rw [pairV_opt] at h; exact h)
    have HE : Hid (spl r = pairR r) := Lib.hid (by unfold spl; rw [if_neg (by rw [hs]; exact Bool.false_ne_true)])
    rw [HE.out]
    clear HE
    unfold prt at HS
    obtain ⟨x, y, b, hv⟩ : ∃ x y b, optV (pairR r) = .tuple #[.agg #[.int .i32 x, .int .i32 y], .bool b] := by cases pairR r <;> exact ⟨_, _, _, rfl⟩
    rw [hv] at HP ⊢
    clear hv hs
    go_enter Tryz.func41, Tryz.ntmps41
    go_wp2_with (first | (go_at_call 54; refine (HS.out _).mono ?_; rintro e w4 ⟨rfl, hb4⟩; obtain ⟨hg4, hw4⟩ := kept_box hb4; clear hb4; have hg5 := alloc_old (.cells #[.int .i32 0, .int .i32 0] 45) hg4) | (go_at_call 55; refine (HP.out _).mono ?_; rintro e w5 ⟨rfl, hb5⟩; have hg6 := below_old hg5 hb5; obtain ⟨c0, c1, f0, f1⟩ := box_parts hg6) | fail)
    refine bodyPost_ret (res_split (box_set hg6)) rfl ?_
    have hw5 := hw4.alloc hw4.size (.cells #[.int .i32 0, .int .i32 0] 45)
    exact ⟨rfl, ((hw5.trans (hb5.mono hw5.size)).setCell (Nat.le_refl _) _).setCell (Nat.le_refl _) _⟩
end Go.Proofs.YtncnagagigalhaaGreatDoor
