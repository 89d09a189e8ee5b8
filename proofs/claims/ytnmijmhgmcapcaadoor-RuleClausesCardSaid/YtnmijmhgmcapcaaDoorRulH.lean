/-
  fascialaw09: rows of the call's own; parts of a row; marks within a label.
-/
import Derived.Test.YtnmijmhgmcapcaaDoorRulG
import Derived.Test.YtnmijmhgmcapcaaDoorAppendRow
namespace Go.Proofs.YtnmijmhgmcapcaaDoor.Rul
open Go.RowKit Ucd

theorem info_int32 : (Tryd.prog.info? 21).map (fun i => (i.zero, i.size, i.bytes)) = some (some (.int .i32 0), 1, 4) := by kernel_rfl
theorem info_split {i : TypeId} {z : Value} {a b : Nat} (h : (Tryd.prog.info? i).map (fun i => (i.zero, i.size, i.bytes)) = some (some z, a, b)) : ∃ x, Tryd.prog.info? i = some x ∧ x.zero = some z ∧ x.size = a ∧ x.bytes = b := by
  cases hx : Tryd.prog.info? i with
  | none => rw [hx] at h; cases h
  | some x => rw [hx] at h; simp only [Option.map_some, Option.some.injEq, Prod.mk.injEq] at h; exact ⟨x, rfl, h.1, h.2.1, h.2.2⟩
theorem own_form {w : World} {base : Nat} {e : TypeId} {size n : Nat} {v : Value} {xs : List Value} (h : w.ownsRow base e size v n xs) : ∃ A c, v = .slice A n c ∧ n ≤ c ∧ Row w w.heap.size A xs := by
  rcases h.2 with ⟨rfl, rfl⟩ | ⟨g, cap, cur, rfl, _, _, hc, _⟩
  · exact ⟨none, 0, rfl, by omega, .of_own h⟩
  · exact ⟨_, cap, rfl, hc, .of_own h⟩
theorem own_row {w : World} {base : Nat} {e : TypeId} {size n m c : Nat} {A : Option Addr} {xs : List Value} (h : w.ownsRow base e size (.slice A m c) n xs) : Row w w.heap.size A xs := by
  obtain ⟨A1, c1, hv, _, hr⟩ := own_form h
  cases hv
  exact hr
theorem own_none (w : World) (base : Nat) (e : TypeId) (hb : base ≤ w.heap.size) : (w.alloc (.cells #[] e)).ownsRow base e 1 (.slice (some ⟨w.heap.size, 0, none⟩) 0 0) 0 [] :=
  World.ownsRow_lit w #[] 0 hb (by unfold maxLen; omega) rfl
theorem row_take {w : World} {B : Nat} {A : Option Addr} {l : List Int} (h : Row w B A (cl .i32 l)) (k : Nat) : Row w B A (cl .i32 (l.take k)) := by
  rcases h with h | ⟨b, o, hA, hb, hc⟩
  · have : l = [] := by simpa [cl] using h
    subst this
    exact .inl (by simp [cl])
  · refine .inr ⟨b, o, hA, hb, fun i hi => ?_⟩
    have hi' : i < k ∧ i < l.length := by rw [List.length_map, List.length_take] at hi; omega
    rw [hc i (by simp; omega), List.getElem?_map, List.getElem?_map, List.getElem?_take_of_lt hi'.1]
theorem row_drop {w : World} {B : Nat} {A : Option Addr} {l : List Int} (h : Row w B A (cl .i32 l)) {n cap k : Nat} (hn : l.length = n) (hk : k ≤ n) (hc : ¬ cap = k) : Row w B (Option.map (fun x => x.add k) A) (cl .i32 (l.drop k)) := by
  have h := (h.sub (l := k) (n := n - k) (cap := cap) (m := k) (by simp [hn]; omega) (fun _ => hc)).2 rfl
  rw [← List.map_drop, List.take_of_length_le (by simp [hn])] at h
  exact h
theorem cl_app (a b : List Int) : cl .i32 (a ++ b) = cl .i32 a ++ cl .i32 b := by simp [cl]

theorem rep_all (p : Int → Bool) (m : Nat) (h : p 8 = true) : (List.replicate m (8 : Int)).all p = true := by
  rw [List.all_eq_true]
  intro x hx
  rw [(List.mem_replicate.1 hx).2]
  exact h
theorem rep_any (p : Int → Bool) (m : Nat) (h : p 8 = false) : (List.replicate m (8 : Int)).any p = false := by
  rw [List.any_eq_false]
  intro x hx
  rw [(List.mem_replicate.1 hx).2, h]
  decide
theorem any_marks (s : Int) (h : hs s 8 = false) (A B : List Int) (m : Nat) : (A ++ List.replicate m 8 ++ B).any (hs s) = (A ++ B).any (hs s) := by
  rw [List.any_append, List.any_append, rep_any _ _ h, List.any_append, Bool.or_false]
theorem vio_marks {ins lst : Int} (h : hs ins 8 = true) (A B : List Int) (m : Nat) : vio ins lst (A ++ List.replicate m 8 ++ B) = vio ins lst (A ++ B) := by
  unfold vio
  rw [lastC_marks, any_marks 8 (by decide +kernel), any_marks 64 (by decide +kernel), List.all_append, List.all_append, rep_all _ _ h, List.all_append, Bool.and_true]
theorem chkC_marks (a : Int) (A B : List Int) (m : Nat) : chkC (a :: A ++ List.replicate m 8 ++ B) = chkC (a :: A ++ B) := by
  show (if hs 6 a = true then vio 9214 78 (a :: A ++ List.replicate m 8 ++ B) else if hs 1 a = true then vio 9145 9 (a :: A ++ List.replicate m 8 ++ B) else 9) = (if hs 6 a = true then vio 9214 78 (a :: A ++ B) else if hs 1 a = true then vio 9145 9 (a :: A ++ B) else 9)
  rw [vio_marks (by decide +kernel), vio_marks (by decide +kernel)]
theorem bc_mark : bc 769 = 8 := by decide +kernel
theorem map_marks (A B : List Int) (m : Nat) : (A ++ List.replicate m 769 ++ B).map bc = A.map bc ++ List.replicate m 8 ++ B.map bc := by
  rw [List.map_append, List.map_append, List.map_replicate, bc_mark]
theorem chk_marks {l : List Int} {k : Nat} (hk : 0 < k) (hl : 0 < l.length) (m : Nat) : chk (l.take k ++ List.replicate m 769 ++ l.drop k) = chk l := by
  unfold chk
  rw [map_marks]
  cases l with
  | nil => simp at hl
  | cons r t =>
    cases k with
    | zero => omega
    | succ k =>
      rw [List.take_succ_cons, List.map_cons, chkC_marks, ← List.map_cons, ← List.map_append, ← List.take_succ_cons, List.take_append_drop]
theorem bid_marks (l : List Int) (k m : Nat) : bid (l.take k ++ List.replicate m 769 ++ l.drop k) = bid l := by
  unfold bid bidC
  rw [map_marks, any_marks 70 (by decide +kernel), ← List.map_append, List.take_append_drop]
end Go.Proofs.YtnmijmhgmcapcaaDoor.Rul
