/-
  A row of operations that only yield values, one behind the other: carried out by a function that the kernel can run.
-/
import Derived.Test.YtjpmecdjlodaoaaDoorWords
namespace Go.Proofs.YtjpmecdjlodaoaaDoor
open Go.RowKit

/-- the operations, one by one, if each just yields a value -/
def straight (P : Program) : List Oper → Act → World → Option (Act × World)
  | [], a, w => some (a, w)
  | o :: rest, a, w => match o.guard with
    | some _ => none
    | none => match (execOp a.eval o).run P w with
      | .ok (.value v) w' => straight P rest (a.put o.dst v) w'
      | _ => none

theorem wpList_straight {P : Program} {ops : Array Oper} {Q : Exit → Act → World → Prop} : ∀ (l : List Oper) (a : Act) (w : World) (a' : Act) (w' : World), straight P l a w = some (a', w') → Q .normal a' w' → wpList P ops Q l a w
  | [], a, w, a', w', h, hQ => by
    simp only [straight, Option.some.injEq, Prod.mk.injEq] at h
    obtain ⟨rfl, rfl⟩ := h
    exact hQ
  | o :: rest, a, w, a', w', h, hQ => by
    unfold straight at h
    split at h
    · cases h
    · rename_i hg
      split at h
      · rename_i v w1 hr
        refine wpList_plain hg fun K hK => ?_
        unfold Oper.wp
        rw [hr]
        exact hK _ _ (wpList_straight rest _ _ a' w' h hQ)
      · cases h

end Go.Proofs.YtjpmecdjlodaoaaDoor
