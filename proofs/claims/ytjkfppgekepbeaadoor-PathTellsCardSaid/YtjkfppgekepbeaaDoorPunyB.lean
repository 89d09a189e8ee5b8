/-
  Contracts of puny.addDigits, puny.number.
-/
import Derived.Test.YtjkfppgekepbeaaDoorPunyA
import Derived.IntWalk
import Derived.Deep.QuietTactic
import Derived.BigQuiet
import Derived.Maps.Range
import Derived.Test.YtjkfppgekepbeaaDoorAppendRow
namespace Go.Proofs.YtjkfppgekepbeaaDoor.Pn
set_option maxRecDepth 100000
open Go.RowKit Puny

/-- a digit's sign, as a number -/
def sgn (d : Nat) : Int := ((sign d).toNat : Int)

def alpha : ByteArray := { data := #[97, 98, 99, 100, 101, 102, 103, 104, 105, 106, 107, 108, 109, 110, 111, 112, 113, 114, 115, 116, 117, 118, 119, 120, 121, 122, 48, 49, 50, 51, 52, 53, 54, 55, 56, 57] }
theorem alpha_at {d : Nat} (h : d < 36) : alpha.data[d]? = some (sign d) := by
  have : ∀ d : Fin 36, alpha.data[d.1]? = some (sign d.1) := by decide +kernel
  exact this ⟨d, h⟩

theorem idx {d : Nat} (hd : d < 36) (b : ByteArray) (hb : b = alpha) (i : Nat) (hi : i = d) (h : i < b.size) : ((b[i]'h).toNat : Int) = sgn d := by
  subst hb hi
  unfold sgn
  have := alpha_at hd
  rw [Array.getElem?_eq_some_iff] at this
  obtain ⟨_, h2⟩ := this
  rw [← h2]
  rfl

/-- a block of two cells that lies as it was laid -/
theorem blk2 {w : World} {B : Nat} {a b : Value} {t : TypeId} (h : w.heap[B]? = some (.cells #[a, b] t (0, 0))) :
    w.cell? ⟨B, 0, none⟩ = some a ∧ w.cell? ⟨B, 1, none⟩ = some b ∧ w.frozen? ⟨B, 0, none⟩ = false ∧ w.frozen? ⟨B, 1, none⟩ = false := by
  refine ⟨?_, ?_, ?_, ?_⟩
  all_goals simp [World.cell?, World.frozen?, h]

/-- the world has grown from w to w', where of what lay in w only v0's own block may have turned; v is v0 that has grown -/
def Grew (w : World) (v0 : Value) (w' : World) (v : Value) : Prop :=
  w.grownBy w' v0.ownBlock ∧ (v.ownBlock = v0.ownBlock ∨ ∃ j, v.ownBlock = some j ∧ w.heap.size ≤ j)
theorem Grew.refl (w : World) (v : Value) : Grew w v w v := ⟨World.grownBy.refl _ _, .inl rfl⟩
theorem Grew.step {w w1 w2 : World} {v0 v v' : Value} (h : Grew w v0 w1 v) (k : w1.grownBy w2 v.ownBlock) (hv : v'.ownBlock = v.ownBlock ∨ ∃ j, v'.ownBlock = some j ∧ w1.heap.size ≤ j) : Grew w v0 w2 v' := by
  refine ⟨h.1.andThen k fun j hj => ?_, ?_⟩
  · rcases h.2 with e | ⟨i, e, hi⟩
    · exact .inr (by rw [← e]; exact hj)
    · rw [e] at hj; injection hj with hj; subst hj; exact .inl hi
  · rcases hv with e | ⟨i, e, hi⟩
    · rw [e]; exact h.2
    · exact .inr ⟨i, e, Nat.le_trans h.1.size hi⟩
theorem Grew.below {w w1 w2 : World} {v0 v : Value} (h : Grew w v0 w1 v) (hB : Below w1.heap.size w1 w2) : Grew w v0 w2 v :=
  h.step (World.grownBy.but ⟨hB.os, hB.tape, hB.output, hB.size, fun j hj _ => hB.block j hj⟩ _) (.inl rfl)
theorem Grew.alloc {w w1 : World} {v0 v : Value} (h : Grew w v0 w1 v) (o : Obj) : Grew w v0 (w1.alloc o) v := h.step (World.grownBy_alloc w1 o _) (.inl rfl)
theorem Grew.append {w w1 w2 : World} {v0 v v' : Value} {o : Obj} (h : Grew w v0 w1 v) (k : (w1.alloc o).grownBy w2 v.ownBlock) (hv : v'.ownBlock = v.ownBlock ∨ v'.ownBlock = some (w1.alloc o).heap.size) : Grew w v0 w2 v' :=
  (h.alloc o).step k (hv.imp_right fun e => ⟨_, e, Nat.le_refl _⟩)
theorem Grew.from_alloc {w w' : World} {v0 v : Value} {o : Obj} (h : Grew (w.alloc o) v0 w' v) : Grew w v0 w' v :=
  ⟨(World.grownBy_alloc w o _).trans h.1, h.2.imp_right fun ⟨j, e, hj⟩ => ⟨j, e, by simp at hj; omega⟩⟩

/-- what 'addDigits' does, behind a name -/
def Added (base : Nat) (v : Value) (n : Nat) (xs : List Value) (news : List Int) (w : World) (e : Ending) (w' : World) : Prop :=
  ∃ v', e = .returned v' ∧ w'.ownsRow base 5 1 v' (n + news.length) (xs ++ cl .u8 news) ∧ Grew w v w' v'
theorem added_mk {base : Nat} {v : Value} {n m : Nat} {xs : List Value} {L done : List Int} {x y : Int} {w w2 : World} {v' : Value} (hL : L = done ++ [x]) (hx : y = x) (hm : n + done.length + 1 = m)
    (hown : w2.ownsRow base 5 1 v' m (xs ++ cl .u8 done ++ [.int .u8 y])) (hg : Grew w v w2 v') : Added base v n xs L w (.returned v') w2 := by
  subst hL hx hm
  exact ⟨v', rfl, by simpa [Nat.add_assoc] using hown, hg⟩

theorem own_snoc {base n m : Nat} {xs : List Value} {done : List Int} {x y : Int} {w2 : World} {v' : Value} (hx : y = x) (hm : n + done.length + 1 = m)
    (hown : w2.ownsRow base 5 1 v' m (xs ++ cl .u8 done ++ [.int .u8 y])) : w2.ownsRow base 5 1 v' (n + (done ++ [x]).length) (xs ++ cl .u8 (done ++ [x])) := by
  subst hx hm
  simpa [Nat.add_assoc] using hown

def AddRel (base : Nat) (v0 : Value) (n : Nat) (xs : List Value) (lead d0 : Nat) (w : World) (s0 s1 s7 : Value) (wr : World) : Prop :=
  ∃ (k d : Nat) (done : List Int), s1 = .int .i64 d ∧ s7 = .int .i64 k ∧ d ≤ d0 ∧ k + d ≤ 1 + d0 ∧ 1 ≤ k ∧ (digs lead 1 d0).map sgn = done ++ (digs lead k d).map sgn ∧ done.length + d ≤ d0 ∧
    wr.ownsRow base 5 1 s0 (n + done.length) (xs ++ cl .u8 done) ∧ Grew w v0 wr s0

end Go.Proofs.YtjkfppgekepbeaaDoor.Pn
