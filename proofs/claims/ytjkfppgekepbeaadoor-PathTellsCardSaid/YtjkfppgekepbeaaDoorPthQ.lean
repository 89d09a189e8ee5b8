/-
  Dots of any text; the ways to say a dot.
-/
import Derived.Test.YtjkfppgekepbeaaDoorPthP
namespace Go.Proofs.YtjkfppgekepbeaaDoor.Pth
set_option maxRecDepth 100000
open Go.RowKit Go.Shelf Utf Ut Hst

def sgA (s : ByteArray) : Bool := asc (dl s) && sgl s
def dbA (s : ByteArray) : Bool := asc (dl s) && dbl s
theorem Sg_any (s : ByteArray) (hs : s.size ≤ 1000000) (w : World) (hE : Env w) : Calls Tryd.prog 10 #[.string s] w (Says (sgA s) w) := by
  have := Single_low (low_all hs (w := w) (fun W h => (hE.go h).case))
  rw [one_any] at this
  exact this
theorem Db_any (s : ByteArray) (hs : s.size ≤ 1000000) (w : World) (hE : Env w) : Calls Tryd.prog 12 #[.string s] w (Says (dbA s) w) := by
  have := Double_low (low_all hs (w := w) (fun W h => (hE.go h).case))
  rw [two_any] at this
  exact this
/-- one of the ways to say a dot -/
def DotT (x : ByteArray) : Prop := x = ⟨#[46]⟩ ∨ x = ⟨#[37, 50, 101]⟩ ∨ x = ⟨#[37, 50, 69]⟩
theorem DotT.size {x : ByteArray} (h : DotT x) : x.size ≤ 3 := by
  rcases h with rfl | rfl | rfl <;> decide
theorem dot_xy {x y : ByteArray} (hx : DotT x) (hy : DotT y) : sgA x = true ∧ dbA x = false ∧ dbA (x ++ y) = true ∧ sgA (x ++ y) = false ∧ dbA (x ++ y ++ x) = false := by
  rcases hx with rfl | rfl | rfl <;> rcases hy with rfl | rfl | rfl <;> decide +kernel
theorem dot_none : sgA ⟨#[]⟩ = false ∧ dbA ⟨#[]⟩ = false := by decide +kernel
/-- a text of one byte -/
def odd (c : Nat) : ByteArray := ⟨#[UInt8.ofNat c]⟩
theorem dot_odd {x y : ByteArray} (hx : DotT x) (hy : DotT y) {c : Nat} (hc : c < 256) (h46 : c ≠ 46) : sgA (odd c) = false ∧ dbA (x ++ odd c) = false ∧ dbA (odd c ++ y) = false ∧ sgA (x ++ odd c) = false := by
  have key : ∀ x ∈ ([⟨#[46]⟩, ⟨#[37, 50, 101]⟩, ⟨#[37, 50, 69]⟩] : List ByteArray), ∀ y ∈ ([⟨#[46]⟩, ⟨#[37, 50, 101]⟩, ⟨#[37, 50, 69]⟩] : List ByteArray), ∀ c : Fin 256, c.1 ≠ 46 → sgA (odd c.1) = false ∧ dbA (x ++ odd c.1) = false ∧ dbA (odd c.1 ++ y) = false ∧ sgA (x ++ odd c.1) = false := by decide +kernel
  refine key x ?_ y ?_ ⟨c, hc⟩ h46
  · rcases hx with rfl | rfl | rfl <;> simp
  · rcases hy with rfl | rfl | rfl <;> simp
theorem rep_one {D : List UInt8} (h : oneL D = true) : Lib.replaceAll D [37, 50, 101] [46] = [46] := by
  unfold oneL at h
  rw [Bool.or_eq_true] at h
  rcases h with h | h
  · rw [of_decide_eq_true h]; decide +kernel
  · rw [of_decide_eq_true h]; decide +kernel
theorem rep_two {D : List UInt8} (h : twoL D = true) : Lib.replaceAll D [37, 50, 101] [46] = [46, 46] := by
  unfold twoL at h
  simp only [Bool.or_eq_true] at h
  rcases h with ((h | h) | h) | h
  · rw [of_decide_eq_true h]; decide +kernel
  · rw [of_decide_eq_true h]; decide +kernel
  · rw [of_decide_eq_true h]; decide +kernel
  · rw [of_decide_eq_true h]; decide +kernel
end Go.Proofs.YtjkfppgekepbeaaDoor.Pth
