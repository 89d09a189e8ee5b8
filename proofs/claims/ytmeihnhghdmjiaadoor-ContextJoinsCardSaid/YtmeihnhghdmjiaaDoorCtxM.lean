/-
  fascialaw08.ContextJoins: its rows, as mathematics; laws for two boxes made in whatever order.
-/
import Derived.Test.YtmeihnhghdmjiaaDoorCtxL
import Derived.Deep.RegionHeld3
import Derived.Deep.DrawnRows
import Derived.Deep.DeepCutAuto
import Derived.BigQuiet
import Derived.Deep.QuietTactic
namespace Go.Proofs.YtmeihnhghdmjiaaDoor.Ctx
open Go.RowKit Ucd

theorem jrow_eq (j a b : Int) (p q : Nat) : jrow j a b p q = (a :: List.replicate p 1614) ++ [j] ++ (List.replicate q 1617 ++ [b]) := by
  unfold jrow
  rw [List.append_assoc]
theorem jlen (a : Int) (p : Nat) : (a :: List.replicate p 1614).length = 1 + p := by simp; omega
theorem jget (j a b : Int) (p q : Nat) : (jrow j a b p q)[1 + p]! = j := by
  have := mid_get (P := a :: List.replicate p 1614) (I := [j]) (S := List.replicate q 1617 ++ [b]) (j := 0) (by simp)
  rw [jlen, Nat.add_zero] at this
  rw [jrow_eq]
  exact this
theorem jprev (j a b : Int) (p q : Nat) : (jrow j a b p q)[1 + p - 1]! = if p = 0 then a else 1614 := by
  rw [jrow_eq, show 1 + p - 1 = p from by omega, List.append_assoc, getElem!_pos _ p (by simp; omega), List.getElem_append_left (by simp)]
  cases p with
  | zero => rfl
  | succ p => simp
theorem jtake (j a b : Int) (p q : Nat) : (jrow j a b p q).take (1 + p) = a :: List.replicate p 1614 := by
  have := mid_take (P := a :: List.replicate p 1614) (I := [j]) (S := List.replicate q 1617 ++ [b]) (j := 0) (by simp)
  rw [jlen, Nat.add_zero] at this
  rw [jrow_eq, this]
  simp
theorem jdrop (j a b : Int) (p q : Nat) : (jrow j a b p q).drop (1 + p + 1) = List.replicate q 1617 ++ [b] := by
  have := mid_drop (P := a :: List.replicate p 1614) (I := [j]) (S := List.replicate q 1617 ++ [b]) (j := 1) (by simp)
  rw [jlen] at this
  rw [jrow_eq, this]
  simp
theorem nxt_rep (x : Int) (hx : jt x = 2) (ys : List Int) : ∀ k : Nat, nxt (List.replicate k x ++ ys) = nxt ys
  | 0 => rfl
  | k + 1 => by rw [List.replicate_succ, List.cons_append, nxt, if_pos hx]; exact nxt_rep x hx ys k
theorem jt_1614 : jt 1614 = 2 ∧ jt 1617 = 2 ∧ cc 1614 ≠ 9 ∧ cc 2381 = 9 := by decide +kernel
theorem nxt_one (x : Int) : nxt [x] = if jt x = 2 then 0 else jt x := rfl
def kil (a : Int) (p : Nat) : Bool := decide (p = 0) && decide (cc a = 9)
theorem jvir (j a b : Int) (p q : Nat) : vir (jrow j a b p q) (1 + p) = kil a p := by
  unfold vir kil
  rw [jprev, decide_eq_true (show 0 < 1 + p by omega), Bool.true_and]
  by_cases h : p = 0
  · rw [if_pos h, decide_eq_true h, Bool.true_and]
  · rw [if_neg h, decide_eq_false h, Bool.false_and]
    exact decide_eq_false jt_1614.2.2.1
theorem at_zwj (a b : Int) (p q : Nat) : atC (jrow 8205 a b p q) (1 + p) = if kil a p = true then 0 else 7 := by
  unfold atC
  rw [jget]
  show (if 4 < 8 ∧ vir (jrow 8205 a b p q) (1 + p) = false then (7 : Int) else 0) = _
  simp only [show (4 : Nat) < 8 from by decide, true_and]
  rw [jvir]
  cases kil a p <;> rfl
theorem at_zwnj (a b : Int) (p q : Nat) (hb : jt b ≠ 2) : atC (jrow 8204 a b p q) (1 + p) = if (kil a p || (on (jt a) && back (jt b))) = true then 0 else 7 := by
  unfold atC
  rw [jget]
  show (if 3 < 8 ∧ (vir (jrow 8204 a b p q) (1 + p) || (on (nxt ((jrow 8204 a b p q).take (1 + p)).reverse) && back (nxt ((jrow 8204 a b p q).drop (1 + p + 1))))) = false then (7 : Int) else 0) = _
  simp only [show (3 : Nat) < 8 from by decide, true_and]
  rw [jvir, jtake, jdrop, List.reverse_cons, List.reverse_replicate, nxt_rep 1614 jt_1614.1, nxt_rep 1617 jt_1614.2.1, nxt_one, nxt_one, if_neg hb]
  have e : on (if jt a = 2 then 0 else jt a) = on (jt a) := by
    by_cases h : jt a = 2
    · rw [if_pos h, h]; rfl
    · rw [if_neg h]
  rw [e]
  cases kil a p <;> cases on (jt a) <;> cases back (jt b) <;> rfl
theorem at_vir (j a b : Int) (hj : j = 8204 ∨ j = 8205) : atC [a, 2381, j, b] 2 = 0 := by
  unfold atC
  have hv : vir [a, 2381, j, b] 2 = true := by
    show (decide (0 < 2) && decide (cc 2381 = 9)) = true
    rw [decide_eq_true jt_1614.2.2.2]
    rfl
  rcases hj with rfl | rfl
  · refine if_neg (fun h => ?_)
    have h2 : (vir [a, 2381, 8204, b] 2 || (on (nxt ([a, 2381, 8204, b].take 2).reverse) && back (nxt ([a, 2381, 8204, b].drop (2 + 1))))) = false := h.2
    rw [hv] at h2
    exact absurd h2 (by simp)
  · refine if_neg (fun h => ?_)
    have h2 : vir [a, 2381, 8205, b] 2 = false := h.2
    rw [hv] at h2
    exact absurd h2 (by simp)
theorem boxAt.of {w : World} {X : Nat} {v : Value} {t : TypeId} (h : w.heap[X]? = some (.cells #[v] t (0, 0))) : boxAt w X v := ⟨(Array.getElem?_eq_some_iff.1 h).1, by simp [World.cell?, h]⟩
/-! worlds -/
theorem up_alloc {w0 W : World} {o : Obj} (h : Below w0.heap.size w0 W) : Below w0.heap.size w0 (W.alloc o) := h.alloc h.size o
theorem up_set {w0 W : World} {X k : Nat} {u : Value} (h : Below w0.heap.size w0 W) (hX : w0.heap.size ≤ X) : Below w0.heap.size w0 (W.setCell ⟨X, k, none⟩ u) := h.setCell hX u
theorem up_drew {w0 W : World} (h : Below w0.heap.size w0 W) : Below w0.heap.size w0 W.drew := h.drew
theorem upDAA {w w' : World} (o o' : Obj) (h : Below ((w.alloc o).alloc o').drew.heap.size ((w.alloc o).alloc o').drew w') : Below w.heap.size w w' := below_past o (below_past o' (below_undrew (w := (w.alloc o).alloc o') h))
theorem alloc_newS (w : World) (o o' : Obj) : ((w.alloc o).alloc o').heap[w.heap.size + 1]? = some o' := by
  have := alloc_new (w.alloc o) o'
  rwa [show (w.alloc o).heap.size = w.heap.size + 1 from by show (w.heap.push o).size = _; simp] at this
theorem size_past {w w' : World} {o : Obj} (h : Below (w.alloc o).heap.size (w.alloc o) w') : w.heap.size < w'.heap.size := by
  have := h.size
  rw [show (w.alloc o).heap.size = w.heap.size + 1 from by show (w.heap.push o).size = _; simp] at this
  omega
theorem cells7 {w : World} {X : Nat} {t : TypeId} {a0 a1 a2 a3 a4 a5 a6 : Value} (h : w.heap[X]? = some (.cells #[a0, a1, a2, a3, a4, a5, a6] t (0, 0))) :
    (w.cell? ⟨X, 0, none⟩ = some a0 ∧ w.cell? ⟨X, 1, none⟩ = some a1 ∧ w.cell? ⟨X, 2, none⟩ = some a2 ∧ w.cell? ⟨X, 3, none⟩ = some a3 ∧ w.cell? ⟨X, 4, none⟩ = some a4 ∧ w.cell? ⟨X, 5, none⟩ = some a5 ∧ w.cell? ⟨X, 6, none⟩ = some a6) ∧
    (w.frozen? ⟨X, 0, none⟩ = false ∧ w.frozen? ⟨X, 1, none⟩ = false ∧ w.frozen? ⟨X, 2, none⟩ = false ∧ w.frozen? ⟨X, 3, none⟩ = false ∧ w.frozen? ⟨X, 4, none⟩ = false ∧ w.frozen? ⟨X, 5, none⟩ = false ∧ w.frozen? ⟨X, 6, none⟩ = false) := by
  simp [World.cell?, World.frozen?, h]
theorem set7 {w : World} {X : Nat} {t : TypeId} {a0 a1 a2 a3 a4 a5 a6 x0 x1 x2 x3 x4 x5 x6 : Value} (h : w.heap[X]? = some (.cells #[a0, a1, a2, a3, a4, a5, a6] t (0, 0))) : (((((((w.setCell ⟨X, 0, none⟩ x0).setCell ⟨X, 1, none⟩ x1).setCell ⟨X, 2, none⟩ x2).setCell ⟨X, 3, none⟩ x3).setCell ⟨X, 4, none⟩ x4).setCell ⟨X, 5, none⟩ x5).setCell ⟨X, 6, none⟩ x6).heap[X]? = some (.cells #[x0, x1, x2, x3, x4, x5, x6] t (0, 0)) := by
  simp [World.setCell, Array.getElem?_modify, h]
theorem far7 {w : World} {X Y : Nat} {x0 x1 x2 x3 x4 x5 x6 : Value} (h : Y ≠ X) : (((((((w.setCell ⟨X, 0, none⟩ x0).setCell ⟨X, 1, none⟩ x1).setCell ⟨X, 2, none⟩ x2).setCell ⟨X, 3, none⟩ x3).setCell ⟨X, 4, none⟩ x4).setCell ⟨X, 5, none⟩ x5).setCell ⟨X, 6, none⟩ x6).heap[Y]? = w.heap[Y]? := by
  simp [World.setCell, Array.getElem?_modify, Ne.symm h]
theorem fin0 {w : World} {X Y : Nat} {t : TypeId} {x0 x1 x2 x3 x4 x5 x6 y0 y1 y2 y3 y4 y5 y6 : Value} (hX : w.heap[X]? = some (.cells #[x0, x1, x2, x3, x4, x5, x6] t (0, 0))) (hY : w.heap[Y]? = some (.cells #[y0, y1, y2, y3, y4, y5, y6] t (0, 0))) :
    w.cell? ⟨X, 2, none⟩ = some x2 ∧ w.cell? ⟨X, 3, none⟩ = some x3 ∧ w.cell? ⟨Y, 2, none⟩ = some y2 := ⟨(cells7 hX).1.2.2.1, (cells7 hX).1.2.2.2.1, (cells7 hY).1.2.2.1⟩
theorem fin7 {w : World} {X Y : Nat} {t : TypeId} {x0 x1 x2 x3 x4 x5 x6 b0 b1 b2 b3 b4 b5 b6 y0 y1 y2 y3 y4 y5 y6 : Value} (hX : w.heap[X]? = some (.cells #[x0, x1, x2, x3, x4, x5, x6] t (0, 0))) (hY : w.heap[Y]? = some (.cells #[b0, b1, b2, b3, b4, b5, b6] t (0, 0))) (hne : X ≠ Y) :
    (((((((w.setCell ⟨Y, 0, none⟩ y0).setCell ⟨Y, 1, none⟩ y1).setCell ⟨Y, 2, none⟩ y2).setCell ⟨Y, 3, none⟩ y3).setCell ⟨Y, 4, none⟩ y4).setCell ⟨Y, 5, none⟩ y5).setCell ⟨Y, 6, none⟩ y6).cell? ⟨X, 2, none⟩ = some x2 ∧ (((((((w.setCell ⟨Y, 0, none⟩ y0).setCell ⟨Y, 1, none⟩ y1).setCell ⟨Y, 2, none⟩ y2).setCell ⟨Y, 3, none⟩ y3).setCell ⟨Y, 4, none⟩ y4).setCell ⟨Y, 5, none⟩ y5).setCell ⟨Y, 6, none⟩ y6).cell? ⟨X, 3, none⟩ = some x3 ∧ (((((((w.setCell ⟨Y, 0, none⟩ y0).setCell ⟨Y, 1, none⟩ y1).setCell ⟨Y, 2, none⟩ y2).setCell ⟨Y, 3, none⟩ y3).setCell ⟨Y, 4, none⟩ y4).setCell ⟨Y, 5, none⟩ y5).setCell ⟨Y, 6, none⟩ y6).cell? ⟨Y, 2, none⟩ = some y2 := fin0 (by rw [far7 hne]; exact hX) (set7 hY)
theorem fin14 {w : World} {X Y : Nat} {t : TypeId} {a0 a1 a2 a3 a4 a5 a6 b0 b1 b2 b3 b4 b5 b6 x0 x1 x2 x3 x4 x5 x6 y0 y1 y2 y3 y4 y5 y6 : Value} (hX : w.heap[X]? = some (.cells #[a0, a1, a2, a3, a4, a5, a6] t (0, 0))) (hY : w.heap[Y]? = some (.cells #[b0, b1, b2, b3, b4, b5, b6] t (0, 0))) (hne : X ≠ Y) :
    ((((((((((((((w.setCell ⟨X, 0, none⟩ x0).setCell ⟨X, 1, none⟩ x1).setCell ⟨X, 2, none⟩ x2).setCell ⟨X, 3, none⟩ x3).setCell ⟨X, 4, none⟩ x4).setCell ⟨X, 5, none⟩ x5).setCell ⟨X, 6, none⟩ x6).setCell ⟨Y, 0, none⟩ y0).setCell ⟨Y, 1, none⟩ y1).setCell ⟨Y, 2, none⟩ y2).setCell ⟨Y, 3, none⟩ y3).setCell ⟨Y, 4, none⟩ y4).setCell ⟨Y, 5, none⟩ y5).setCell ⟨Y, 6, none⟩ y6).cell? ⟨X, 2, none⟩ = some x2 ∧ ((((((((((((((w.setCell ⟨X, 0, none⟩ x0).setCell ⟨X, 1, none⟩ x1).setCell ⟨X, 2, none⟩ x2).setCell ⟨X, 3, none⟩ x3).setCell ⟨X, 4, none⟩ x4).setCell ⟨X, 5, none⟩ x5).setCell ⟨X, 6, none⟩ x6).setCell ⟨Y, 0, none⟩ y0).setCell ⟨Y, 1, none⟩ y1).setCell ⟨Y, 2, none⟩ y2).setCell ⟨Y, 3, none⟩ y3).setCell ⟨Y, 4, none⟩ y4).setCell ⟨Y, 5, none⟩ y5).setCell ⟨Y, 6, none⟩ y6).cell? ⟨X, 3, none⟩ = some x3 ∧ ((((((((((((((w.setCell ⟨X, 0, none⟩ x0).setCell ⟨X, 1, none⟩ x1).setCell ⟨X, 2, none⟩ x2).setCell ⟨X, 3, none⟩ x3).setCell ⟨X, 4, none⟩ x4).setCell ⟨X, 5, none⟩ x5).setCell ⟨X, 6, none⟩ x6).setCell ⟨Y, 0, none⟩ y0).setCell ⟨Y, 1, none⟩ y1).setCell ⟨Y, 2, none⟩ y2).setCell ⟨Y, 3, none⟩ y3).setCell ⟨Y, 4, none⟩ y4).setCell ⟨Y, 5, none⟩ y5).setCell ⟨Y, 6, none⟩ y6).cell? ⟨Y, 2, none⟩ = some y2 := fin7 (set7 hX) (by rw [far7 (Ne.symm hne)]; exact hY) hne
theorem size7 {w : World} {X : Nat} {x0 x1 x2 x3 x4 x5 x6 : Value} : (((((((w.setCell ⟨X, 0, none⟩ x0).setCell ⟨X, 1, none⟩ x1).setCell ⟨X, 2, none⟩ x2).setCell ⟨X, 3, none⟩ x3).setCell ⟨X, 4, none⟩ x4).setCell ⟨X, 5, none⟩ x5).setCell ⟨X, 6, none⟩ x6).heap.size = w.heap.size := by simp [World.setCell]
theorem fin7a {w : World} {X : Nat} {t : TypeId} {a0 a1 a2 a3 a4 a5 a6 x0 x1 x2 x3 x4 x5 x6 y0 y1 y2 y3 y4 y5 y6 : Value} (hX : w.heap[X]? = some (.cells #[a0, a1, a2, a3, a4, a5, a6] t (0, 0))) :
    ((((((((w.setCell ⟨X, 0, none⟩ x0).setCell ⟨X, 1, none⟩ x1).setCell ⟨X, 2, none⟩ x2).setCell ⟨X, 3, none⟩ x3).setCell ⟨X, 4, none⟩ x4).setCell ⟨X, 5, none⟩ x5).setCell ⟨X, 6, none⟩ x6).alloc (.cells #[y0, y1, y2, y3, y4, y5, y6] t)).cell? ⟨X, 2, none⟩ = some x2 ∧ ((((((((w.setCell ⟨X, 0, none⟩ x0).setCell ⟨X, 1, none⟩ x1).setCell ⟨X, 2, none⟩ x2).setCell ⟨X, 3, none⟩ x3).setCell ⟨X, 4, none⟩ x4).setCell ⟨X, 5, none⟩ x5).setCell ⟨X, 6, none⟩ x6).alloc (.cells #[y0, y1, y2, y3, y4, y5, y6] t)).cell? ⟨X, 3, none⟩ = some x3 ∧ ((((((((w.setCell ⟨X, 0, none⟩ x0).setCell ⟨X, 1, none⟩ x1).setCell ⟨X, 2, none⟩ x2).setCell ⟨X, 3, none⟩ x3).setCell ⟨X, 4, none⟩ x4).setCell ⟨X, 5, none⟩ x5).setCell ⟨X, 6, none⟩ x6).alloc (.cells #[y0, y1, y2, y3, y4, y5, y6] t)).cell? ⟨w.heap.size, 2, none⟩ = some y2 :=
  fin0 (keptA (set7 hX) _) (by have := alloc_new (((((((w.setCell ⟨X, 0, none⟩ x0).setCell ⟨X, 1, none⟩ x1).setCell ⟨X, 2, none⟩ x2).setCell ⟨X, 3, none⟩ x3).setCell ⟨X, 4, none⟩ x4).setCell ⟨X, 5, none⟩ x5).setCell ⟨X, 6, none⟩ x6) (.cells #[y0, y1, y2, y3, y4, y5, y6] t); rwa [size7] at this)
theorem fin7b {w : World} {Y : Nat} {t : TypeId} {b0 b1 b2 b3 b4 b5 b6 x0 x1 x2 x3 x4 x5 x6 y0 y1 y2 y3 y4 y5 y6 : Value} (hY : w.heap[Y]? = some (.cells #[b0, b1, b2, b3, b4, b5, b6] t (0, 0))) :
    ((((((((w.setCell ⟨Y, 0, none⟩ y0).setCell ⟨Y, 1, none⟩ y1).setCell ⟨Y, 2, none⟩ y2).setCell ⟨Y, 3, none⟩ y3).setCell ⟨Y, 4, none⟩ y4).setCell ⟨Y, 5, none⟩ y5).setCell ⟨Y, 6, none⟩ y6).alloc (.cells #[x0, x1, x2, x3, x4, x5, x6] t)).cell? ⟨w.heap.size, 2, none⟩ = some x2 ∧ ((((((((w.setCell ⟨Y, 0, none⟩ y0).setCell ⟨Y, 1, none⟩ y1).setCell ⟨Y, 2, none⟩ y2).setCell ⟨Y, 3, none⟩ y3).setCell ⟨Y, 4, none⟩ y4).setCell ⟨Y, 5, none⟩ y5).setCell ⟨Y, 6, none⟩ y6).alloc (.cells #[x0, x1, x2, x3, x4, x5, x6] t)).cell? ⟨w.heap.size, 3, none⟩ = some x3 ∧ ((((((((w.setCell ⟨Y, 0, none⟩ y0).setCell ⟨Y, 1, none⟩ y1).setCell ⟨Y, 2, none⟩ y2).setCell ⟨Y, 3, none⟩ y3).setCell ⟨Y, 4, none⟩ y4).setCell ⟨Y, 5, none⟩ y5).setCell ⟨Y, 6, none⟩ y6).alloc (.cells #[x0, x1, x2, x3, x4, x5, x6] t)).cell? ⟨Y, 2, none⟩ = some y2 :=
  fin0 (by have := alloc_new (((((((w.setCell ⟨Y, 0, none⟩ y0).setCell ⟨Y, 1, none⟩ y1).setCell ⟨Y, 2, none⟩ y2).setCell ⟨Y, 3, none⟩ y3).setCell ⟨Y, 4, none⟩ y4).setCell ⟨Y, 5, none⟩ y5).setCell ⟨Y, 6, none⟩ y6) (.cells #[x0, x1, x2, x3, x4, x5, x6] t); rwa [size7] at this) (keptA (set7 hY) _)
end Go.Proofs.YtmeihnhghdmjiaaDoor.Ctx
