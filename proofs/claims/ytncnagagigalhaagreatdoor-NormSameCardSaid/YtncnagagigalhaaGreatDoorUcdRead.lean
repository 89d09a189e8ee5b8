/-
  What the rows of the table's text say, in numbers. No program here.
-/
import Derived.Test.YtncnagagigalhaaGreatDoorUcdTab
import Derived.Test.YtncnagagigalhaaGreatDoorUcdText
import Derived.Test.YtncnagagigalhaaGreatDoorUcdNumMath
import Derived.Test.YtncnagagigalhaaGreatDoorUcdNamesMath
import Derived.Lib.TrimByte
namespace Ucd
open Go

/-- a column -/
def col (l : List UInt8) (a n : Nat) : List UInt8 := (l.drop a).take n
/-- a column of digits, a column with a name -/
def dcol (l : List UInt8) (a n : Nat) : List UInt8 := Lib.trimLeftB (col l a n) 32
def ncol (l : List UInt8) (a n : Nat) : List UInt8 := Lib.trimRightB (col l a n) 32

def readOk (l : List UInt8) : Bool := isNum 16 (dcol l 0 4) && isNum 16 (dcol l 5 4) && isNum 10 (dcol l 28 3) && isNum 10 (dcol l 50 1) && decide (num 10 0 (dcol l 28 3) < 256) && decide (num 10 0 (dcol l 50 1) < 256)
def readRow (l : List UInt8) : R := (((num 16 0 (dcol l 0 4) : Nat) : Int), ((num 16 0 (dcol l 5 4) : Nat) : Int),
  [((categoryF (ncol l 10 7) : Nat) : Int), ((bidiF (ncol l 18 3) : Nat) : Int), ((joinF (ncol l 22 5) : Nat) : Int), ((num 10 0 (dcol l 28 3) : Nat) : Int), ((scriptF (ncol l 32 10) : Nat) : Int), ((digitsF (ncol l 43 6) : Nat) : Int), ((num 10 0 (dcol l 50 1) : Nat) : Int)])

theorem tab_len : tab.length = 166 := by decide +kernel
theorem read_all : (List.range 166).all (fun i => readOk (rowL i) && decide (readRow (rowL i) = tab.getD i (0, 0, []))) = true := by decide +kernel

/-- the first and the last code point of a row, and its properties -/
def fr (i : Nat) : Int := (tab.getD i (0, 0, [])).1
def to (i : Nat) : Int := (tab.getD i (0, 0, [])).2.1
def pr (i : Nat) : List Int := (tab.getD i (0, 0, [])).2.2
/-- the k-th of some properties -/
def g (p : List Int) (k : Nat) : Int := p.getD k 0

theorem read_at {i : Nat} (h : i < 166) : readOk (rowL i) = true ∧ readRow (rowL i) = (fr i, to i, pr i) := by
  have := List.all_eq_true.1 read_all i (List.mem_range.2 h)
  rw [Bool.and_eq_true, decide_eq_true_eq] at this
  exact ⟨this.1, this.2⟩

theorem tab_small : (List.range 166).all (fun i => decide (0 ≤ fr i) && decide (fr i ≤ to i) && decide (to i < 65536) && (pr i).all (fun x => decide (0 ≤ x ∧ x < 256)) && decide ((pr i).length = 7)) = true := by decide +kernel
theorem fr_bd {i : Nat} (h : i < 166) : 0 ≤ fr i ∧ fr i ≤ to i ∧ to i < 65536 := by
  have := List.all_eq_true.1 tab_small i (List.mem_range.2 h)
  simp only [Bool.and_eq_true, decide_eq_true_eq] at this
  exact ⟨this.1.1.1.1, this.1.1.1.2, this.1.1.2⟩
theorem pr_len {i : Nat} (h : i < 166) : (pr i).length = 7 := by
  have := List.all_eq_true.1 tab_small i (List.mem_range.2 h)
  simp only [Bool.and_eq_true, decide_eq_true_eq] at this
  exact this.2
theorem pr_bd {i : Nat} (h : i < 166) (k : Nat) : 0 ≤ g (pr i) k ∧ g (pr i) k < 256 := by
  have := List.all_eq_true.1 tab_small i (List.mem_range.2 h)
  simp only [Bool.and_eq_true] at this
  have h2 := List.all_eq_true.1 this.1.2
  unfold g
  rw [List.getD_eq_getElem?_getD]
  rcases Nat.lt_or_ge k (pr i).length with hk | hk
  · rw [List.getElem?_eq_getElem hk]
    exact of_decide_eq_true (h2 _ (List.getElem_mem hk))
  · rw [List.getElem?_eq_none hk]
    simp

end Ucd
