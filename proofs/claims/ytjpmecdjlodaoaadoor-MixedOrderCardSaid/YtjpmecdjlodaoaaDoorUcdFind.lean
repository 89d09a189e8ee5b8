import Derived.Test.YtjpmecdjlodaoaaDoorUcdNamesMath
import Derived.Test.YtjpmecdjlodaoaaDoorUcdText
import Derived.Lib.TrimByte
/-
  What the rows of the table's text say, in numbers. No program here.
-/
namespace Ucd
open Go

/-- a column -/
def col (l : List UInt8) (a n : Nat) : List UInt8 := (l.drop a).take n
/-- a column of digits, a column with a name -/
def dcol (l : List UInt8) (a n : Nat) : List UInt8 := Lib.trimLeftB (col l a n) 32
def ncol (l : List UInt8) (a n : Nat) : List UInt8 := Lib.trimRightB (col l a n) 32

def readOk (l : List UInt8) : Bool := isNum 16 (dcol l 0 4) && isNum 16 (dcol l 5 4) && isNum 10 (dcol l 28 3) && isNum 10 (dcol l 50 1) && decide (num 10 0 (dcol l 28 3) < 256) && decide (num 10 0 (dcol l 50 1) < 256)
def readRow (l : List UInt8) : R := (((num 16 0 (dcol l 0 4) : Nat) : Int), ((num 16 0 (dcol l 5 4) : Nat) : Int),
  [((categoryF (ncol l 10 7) : Nat) : Int), ((bidiF (ncol l 18 3) : Nat) : Int), ((joinF (ncol l 22 5) : Nat) : Int), ((num 10 0 (dcol l 28 3) : Nat) : Int), ((scriptF (ncol l 32 10) : Nat) : Int), ((digitsF (ncol l 43 6) : Nat) : Int), ((num 10 0 (dcol l 50 1) : Nat) : Int)])

theorem tab_len : tab.length = 166 := by decide +kernel
theorem read_all : (List.range 166).all (fun i => readOk (rowL i) && decide (readRow (rowL i) = tab.getD i (0, 0, []))) = true := by decide +kernel

/-- the first and the last code point of a row, and its properties -/
def fr (i : Nat) : Int := (tab.getD i (0, 0, [])).1
def to (i : Nat) : Int := (tab.getD i (0, 0, [])).2.1
def pr (i : Nat) : List Int := (tab.getD i (0, 0, [])).2.2
/-- the k-th of some properties -/
def g (p : List Int) (k : Nat) : Int := p.getD k 0

theorem read_at {i : Nat} (h : i < 166) : readOk (rowL i) = true ∧ readRow (rowL i) = (fr i, to i, pr i) := by
  have := List.all_eq_true.1 read_all i (List.mem_range.2 h)
  rw [Bool.and_eq_true, decide_eq_true_eq] at this
  exact ⟨this.1, this.2⟩

theorem tab_small : (List.range 166).all (fun i => decide (0 ≤ fr i) && decide (fr i ≤ to i) && decide (to i < 65536) && (pr i).all (fun x => decide (0 ≤ x ∧ x < 256)) && decide ((pr i).length = 7)) = true := by decide +kernel
theorem fr_bd {i : Nat} (h : i < 166) : 0 ≤ fr i ∧ fr i ≤ to i ∧ to i < 65536 := by
  have := List.all_eq_true.1 tab_small i (List.mem_range.2 h)
  simp only [Bool.and_eq_true, decide_eq_true_eq] at this
  exact ⟨this.1.1.1.1, this.1.1.1.2, this.1.1.2⟩
theorem pr_len {i : Nat} (h : i < 166) : (pr i).length = 7 := by
  have := List.all_eq_true.1 tab_small i (List.mem_range.2 h)
  simp only [Bool.and_eq_true, decide_eq_true_eq] at this
  exact this.2
theorem pr_bd {i : Nat} (h : i < 166) (k : Nat) : 0 ≤ g (pr i) k ∧ g (pr i) k < 256 := by
  have := List.all_eq_true.1 tab_small i (List.mem_range.2 h)
  simp only [Bool.and_eq_true] at this
  have h2 := List.all_eq_true.1 this.1.2
  unfold g
  rw [List.getD_eq_getElem?_getD]
  rcases Nat.lt_or_ge k (pr i).length with hk | hk
  · rw [List.getElem?_eq_getElem hk]
    exact of_decide_eq_true (h2 _ (List.getElem_mem hk))
  · rw [List.getElem?_eq_none hk]
    simp

end Ucd

/-
  Where a code point is found in the table. No program here.
-/
namespace Ucd

theorem rise_ok : (List.range 165).all (fun i => decide (to i < fr (i + 1))) = true := by decide +kernel
theorem rise1 {i : Nat} (h : i + 1 < 166) : to i < fr (i + 1) := by
  have := List.all_eq_true.1 rise_ok i (List.mem_range.2 (by omega))
  exact of_decide_eq_true this
theorem rise {i : Nat} : ∀ j, i < j → j < 166 → to i < fr j
  | 0, h, _ => by omega
  | j + 1, h, hj => by
    rcases Nat.lt_or_ge i j with h1 | h1
    · have h2 := rise (i := i) j h1 (by omega)
      have h3 := fr_bd (i := j) (by omega)
      have h4 := rise1 (i := j) hj
      omega
    · obtain rfl : i = j := by omega
      exact rise1 hj
theorem to_mono {i j : Nat} (h : i ≤ j) (hj : j < 166) : to i ≤ to j := by
  rcases Nat.lt_or_ge i j with h1 | h1
  · have h2 := rise j h1 hj
    have h3 := fr_bd hj
    omega
  · obtain rfl : i = j := by omega
    omega

/-- the first of n rows from i on whose last code point is not below r -/
def seek (r : Int) : Nat → Nat → Nat
  | i, 0 => i
  | i, n + 1 => if r ≤ to i then i else seek r (i + 1) n
def idx (r : Int) : Nat := seek r 0 166

theorem seek_is (r : Int) (m : Nat) : ∀ n i, i ≤ m → m ≤ i + n → (∀ k, i ≤ k → k < m → to k < r) → (m < i + n → r ≤ to m) → seek r i n = m
  | 0, i, h1, h2, _, _ => by simp [seek]; omega
  | n + 1, i, h1, h2, h3, h4 => by
    unfold seek
    rcases Nat.lt_or_ge i m with h | h
    · rw [if_neg (by have := h3 i (by omega) h; omega)]
      exact seek_is r m n (i + 1) (by omega) (by omega) (fun k hk hm => h3 k (by omega) hm) (fun hm => h4 (by omega))
    · obtain rfl : i = m := by omega
      rw [if_pos (h4 (by omega))]
/-- how the row is known -/
theorem idx_is {r : Int} {m : Nat} (hm : m ≤ 166) (h1 : m = 0 ∨ to (m - 1) < r) (h2 : m = 166 ∨ r ≤ to m) : idx r = m := by
  refine seek_is r m 166 0 (by omega) (by omega) (fun k _ hk => ?_) (fun h => by omega)
  have := to_mono (i := k) (j := m - 1) (by omega) (by omega)
  omega
theorem seek_spec (r : Int) : ∀ n i, i ≤ seek r i n ∧ seek r i n ≤ i + n ∧ (∀ k, i ≤ k → k < seek r i n → to k < r) ∧ (seek r i n < i + n → r ≤ to (seek r i n))
  | 0, i => by simp [seek]; omega
  | n + 1, i => by
    unfold seek
    split
    · rename_i h
      exact ⟨by omega, by omega, fun k _ _ => by omega, fun _ => h⟩
    · rename_i h
      obtain ⟨a, b, c, d⟩ := seek_spec r n (i + 1)
      refine ⟨by omega, by omega, fun k h1 h2 => ?_, fun h => d (by omega)⟩
      rcases Nat.lt_or_ge i k with hk | hk
      · exact c k (by omega) h2
      · obtain rfl : k = i := by omega
        omega
theorem idx_le (r : Int) : idx r ≤ 166 := by have := (seek_spec r 166 0).2.1; simpa [idx] using this
theorem idx_below {r : Int} {k : Nat} (h : k < idx r) : to k < r := (seek_spec r 166 0).2.2.1 k (Nat.zero_le _) h
theorem idx_at {r : Int} (h : idx r < 166) : r ≤ to (idx r) := (seek_spec r 166 0).2.2.2 (by rw [Nat.zero_add]; exact h)

/-- what a code point in no row has -/
def un : List Int := [0, 0, 0, 0, 0, 0, 1]
/-- is the code point in its row -/
def inTab (r : Int) : Bool := decide (idx r < 166) && decide (fr (idx r) ≤ r)
/-- the properties of a code point -/
def of (r : Int) : List Int := if inTab r = true then pr (idx r) else un

theorem of_row {r : Int} {i : Nat} (hi : i < 166) (h1 : fr i ≤ r) (h2 : r ≤ to i) : idx r = i ∧ of r = pr i := by
  have h : idx r = i := by
    refine idx_is (by omega) ?_ (.inr h2)
    rcases Nat.eq_zero_or_pos i with h | h
    · exact .inl h
    · have := rise (i := i - 1) i (by omega) hi
      exact .inr (by omega)
  refine ⟨h, ?_⟩
  unfold of inTab
  rw [h, decide_eq_true hi, decide_eq_true h1]
  rfl
theorem of_none {r : Int} (h : ∀ i, i < 166 → ¬ (fr i ≤ r ∧ r ≤ to i)) : of r = un := by
  unfold of inTab
  rcases Nat.lt_or_ge (idx r) 166 with hi | hi
  · have := h _ hi
    have h2 := idx_at hi
    rw [decide_eq_false (show ¬ fr (idx r) ≤ r by omega)]
    simp
  · rw [decide_eq_false (show ¬ idx r < 166 by omega)]
    simp
theorem of_cases (r : Int) : (∃ i, i < 166 ∧ fr i ≤ r ∧ r ≤ to i ∧ of r = pr i) ∨ ((∀ i, i < 166 → ¬ (fr i ≤ r ∧ r ≤ to i)) ∧ of r = un) := by
  by_cases h : ∃ i, i < 166 ∧ fr i ≤ r ∧ r ≤ to i
  · obtain ⟨i, hi, h1, h2⟩ := h
    exact .inl ⟨i, hi, h1, h2, (of_row hi h1 h2).2⟩
  · have h' : ∀ i, i < 166 → ¬ (fr i ≤ r ∧ r ≤ to i) := fun i hi h1 => h ⟨i, hi, h1.1, h1.2⟩
    exact .inr ⟨h', of_none h'⟩
theorem of_bd (r : Int) (k : Nat) : 0 ≤ g (of r) k ∧ g (of r) k < 256 := by
  rcases of_cases r with ⟨i, hi, _, _, h⟩ | ⟨_, h⟩
  · rw [h]; exact pr_bd hi k
  · rw [h]
    unfold g un
    match k with
    | 0 | 1 | 2 | 3 | 4 | 5 | 6 => simp
    | k + 7 => simp

end Ucd
