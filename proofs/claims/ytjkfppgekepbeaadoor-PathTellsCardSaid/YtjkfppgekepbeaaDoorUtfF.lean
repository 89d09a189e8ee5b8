/-
  The contracts of utf.Codes, utf.Decode, utf.Valid.
-/
import Derived.Test.YtjkfppgekepbeaaDoorUtfE
namespace Go.Proofs.YtjkfppgekepbeaaDoor.Ut
set_option maxRecDepth 100000
open Go.RowKit Go.Shelf Utf

attribute [local go_sem] Oper.semAt_some

theorem info_i32 : (Tryd.prog.info? 21).map (fun i => (i.zero, i.size, i.bytes)) = some (some (.int .i32 0), 1, 4) := by kernel_rfl

/-- codes as cells -/
def cdc (l : List Cd) : List Value := l.flatMap fun x => [.int .i32 x.1, .int .i64 (x.2.1 : Int), .int .i64 (x.2.2.1 : Int)]

theorem cdc_len (l : List Cd) : (cdc l).length = l.length * 3 := by
  induction l with
  | nil => rfl
  | cons x l ih => simp [cdc] at ih ⊢; omega
theorem cdc_snoc (l : List Cd) (x : Cd) : cdc (l ++ [x]) = cdc l ++ [.int .i32 x.1, .int .i64 (x.2.1 : Int), .int .i64 (x.2.2.1 : Int)] := by simp [cdc]

/-- a block of cells abides the turn of a block that is none -/
theorem blk_own {β : Type} (B : Nat) (t : TypeId) (f : β → Array Value) : Own (fun s W => W.heap[B]? = some (.cells (f s) t (0, 0))) := fun s X Y row hs hg hrow =>
  (hg.block B (Array.getElem?_eq_some_iff.1 hs).1 (fun e => by
    obtain ⟨o, ho, hc⟩ := hrow B e.symm
    have hs' : X.heap[B]? = some (.cells (f s) t (0, 0)) := hs
    rw [hs'] at ho
    cases ho
    cases hc)).trans hs
/-- another box behind an append to the row that one box holds -/
theorem box_after {W w1 : World} {n₀ B B' : Nat} {t' e : TypeId} {size : Nat} {v v' u : Value} {k : Nat} {xs : List Value} {tmp : Obj}
    (hb : Boxed W B' t' u) (hte : t' ≠ e) (hrow : W.ownsRow n₀ e size v k xs) (hgrow : (W.alloc tmp).grownBy w1 v.ownBlock) (hne : B' ≠ B) : Boxed (w1.setCell ⟨B, 0, none⟩ v') B' t' u :=
  ((hb.alloc tmp).kept hgrow (hb.not_row hte hrow)).other hne v'




def DecI (w : World) (sv : Value) (pre : List Cd) (W : World) : Prop :=
  ((∃ v, Boxed W w.heap.size 22 v ∧ W.ownsRow w.heap.size 21 1 v pre.length (cl .i32 (pre.map (·.1))) ∧ True) ∧ Boxed W (w.heap.size + 1) 40 sv) ∧ Below w.heap.size w W

def MadeRunes (l : List Int) (w : World) (e : Ending) (w' : World) : Prop :=
  ∃ v, e = .returned v ∧ w'.ownsRow w.heap.size 21 1 v l.length (cl .i32 l) ∧ Below w.heap.size w w'


def ValI (w : World) (sv : Value) (pre : List Cd) (W : World) : Prop :=
  ((pre.all (·.2.2.2) = true ∧ Boxed W w.heap.size 4 (.bool false)) ∧ Boxed W (w.heap.size + 1) 40 sv) ∧ Below w.heap.size w W
def ValX (w : World) (c : Code) (pre : List Cd) (W : World) : Prop :=
  ((c = .ret ∧ ∃ x ∈ pre, x.2.2.2 = false) ∧ Boxed W w.heap.size 4 (.bool false)) ∧ Below w.heap.size w W

def IsBool (b : Bool) (w : World) (e : Ending) (w' : World) : Prop := e = .returned (.bool b) ∧ Below w.heap.size w w'

theorem valid_no {bs : List Int} {pre : List Cd} (h : pre <+: codes bs) {x : Cd} (hx : x ∈ pre) (hf : x.2.2.2 = false) : valid bs = false := by
  unfold valid
  rw [List.all_eq_false]
  exact ⟨x, h.subset hx, by simp [hf]⟩



end Go.Proofs.YtjkfppgekepbeaaDoor.Ut
