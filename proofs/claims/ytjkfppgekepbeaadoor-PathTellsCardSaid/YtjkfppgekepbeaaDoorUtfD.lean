/-
  The contract of utf.first.
-/
import Derived.Test.YtjkfppgekepbeaaDoorUtfC
namespace Go.Proofs.YtjkfppgekepbeaaDoor.Ut
set_option maxRecDepth 100000
open Go.RowKit Utf

def FirstDone (bs : List Int) (w : World) (e : Ending) (w' : World) : Prop :=
  e = .returned (.tuple #[.int .i32 (firstC bs).1, .int .i64 (firstC bs).2.1, .bool (firstC bs).2.2]) ∧ Below w.heap.size w w'

def rb (i : Nat) : Int := if i ≤ 1 then 127 else if i = 2 then 8191 else if i = 3 then 524287 else 33554431
theorem rb_le {i : Nat} {r : Int} (h : i < 4) (hr : r ≤ rb i) : r ≤ 524287 := by
  unfold rb at hr
  split at hr
  · omega
  · split at hr
    · omega
    · split at hr <;> omega
theorem rb_step {i : Nat} {r b : Int} (h1 : 1 ≤ i) (h : i < 4) (hr : r ≤ rb i) (hb : b < 64) : r * 64 + b ≤ rb (i + 1) := by
  have : i = 1 ∨ i = 2 ∨ i = 3 := by omega
  rcases this with rfl | rfl | rfl <;> simp [rb] at hr ⊢ <;> omega

theorem firstC_lead {bs : List Int} {c : Int} {t : List Int} (h : bs = c :: t) (h0 : (lead c).1 ≠ 0) : firstC bs = go bs (lead c).1.toNat ((lead c).1.toNat - 1) 1 (lead c).2.1 (lead c).2.2.1 (lead c).2.2.2 := by
  subst h
  simp [firstC, h0]

theorem go_none {bs : List Int} {s k : Nat} {r lo hi : Int} (h : k < s) (hb : bs[k]? = none) : go bs s (s - k) k r lo hi = (65533, k, false) := by
  rw [show s - k = (s - k - 1) + 1 from by omega]
  simp [go, hb]
theorem go_bad {bs : List Int} {s k : Nat} {r lo hi y : Int} (h : k < s) (hb : bs[k]? = some y) (hy : y < lo ∨ hi < y) : go bs s (s - k) k r lo hi = (65533, k, false) := by
  rw [show s - k = (s - k - 1) + 1 from by omega]
  simp [go, hb, hy]
theorem go_next {bs : List Int} {s k : Nat} {r lo hi y : Int} (h : k < s) (hb : bs[k]? = some y) (hy : ¬ (y < lo ∨ hi < y)) : go bs s (s - k) k r lo hi = go bs s (s - (k + 1)) (k + 1) (r * 64 + y % 64) 128 191 := by
  rw [show s - k = (s - (k + 1)) + 1 from by omega]
  simp [go, hb, hy]
theorem go_done {bs : List Int} {s k : Nat} {r lo hi : Int} (h : s ≤ k) : go bs s (s - k) k r lo hi = (r, s, true) := by
  rw [show s - k = 0 from by omega]
  rfl
theorem first_mk {bs : List Int} {w w' : World} {r : Int} {k : Nat} {ok : Bool} (h : firstC bs = (r, k, ok)) (hB : Below w.heap.size w w') : FirstDone bs w (.returned (.tuple #[.int .i32 r, .int .i64 k, .bool ok])) w' := by
  unfold FirstDone
  rw [h]
  exact ⟨rfl, hB⟩

def FRel (bs : List Int) (s : Nat) (r lo hi i : Value) : Prop :=
  ∃ (k : Nat) (r' lo' hi' : Int), 1 ≤ k ∧ k ≤ s ∧ k ≤ bs.length ∧ i = .int .i64 k ∧ r = .int .i32 r' ∧ lo = .int .u8 lo' ∧ hi = .int .u8 hi' ∧ 0 ≤ r' ∧ r' ≤ rb k ∧ firstC bs = go bs s (s - k) k r' lo' hi'



theorem lead_parts (c : Int) (h0 : 0 ≤ c) (h1 : c ≤ 255) : lead c = (0, 0, 0, 0) ∨ ∃ (s : Nat) (x lo hi : Int), lead c = ((s : Int), x, lo, hi) ∧ 1 ≤ s ∧ s ≤ 4 ∧ 0 ≤ x ∧ x ≤ 127 := by
  by_cases a1 : c ≤ 127
  · exact .inr ⟨1, c, 0, 0, lead1 a1, by omega, by omega, h0, a1⟩
  by_cases a2 : c < 194
  · exact .inl (lead0 (by omega) (.inl a2))
  by_cases a3 : 244 < c
  · exact .inl (lead0 (by omega) (.inr a3))
  by_cases a4 : c ≤ 223
  · exact .inr ⟨2, _, _, _, lead2 (by omega) a4, by omega, by omega, by omega, by omega⟩
  by_cases a5 : c ≤ 239
  · exact .inr ⟨3, _, _, _, lead3 (by omega) a5, by omega, by omega, by omega, by omega⟩
  · exact .inr ⟨4, _, _, _, lead4 (by omega) (by omega), by omega, by omega, by omega, by omega⟩


end Go.Proofs.YtjkfppgekepbeaaDoor.Ut
