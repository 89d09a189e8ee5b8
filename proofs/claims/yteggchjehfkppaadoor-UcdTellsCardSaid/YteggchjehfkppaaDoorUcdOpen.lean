/-
  The table that ucd.Table tells, cell by cell; brackets and their properties.
-/
import Derived.Test.YteggchjehfkppaaDoorUcdAwake
namespace Go.Proofs.YteggchjehfkppaaDoor
open Go.RowKit Ucd

/-- the table lies at g -/
def TabAt (w : World) (g : Nat) : Prop := g < w.heap.size ∧ ∀ i k, i < 166 → k < 9 → w.cell? ⟨g, i * 9 + k, none⟩ = (rc i)[k]?
theorem TabAt.go {w w' : World} {g : Nat} (h : TabAt w g) (hb : Below w.heap.size w w') : TabAt w' g :=
  ⟨Nat.lt_of_lt_of_le h.1 hb.size, fun i k hi hk => (hb.cell (p := ⟨g, i * 9 + k, none⟩) h.1).trans (h.2 i k hi hk)⟩
def TableOut (w : World) (e : Ending) (w' : World) : Prop :=
  ∃ g cap, e = .returned (.slice (some ⟨g, 0, none⟩) 166 cap) ∧ 166 ≤ cap ∧ w.heap.size ≤ g ∧ TabAt w' g ∧ Below w.heap.size w w'

theorem Table_out (w : World) : Calls Tryd.prog 8 #[] w (TableOut w) := by
  refine (Table_any w).mono ?_
  rintro e w' ⟨v, rfl, hown, hb⟩
  have hown' := hown
  obtain ⟨h1, h2⟩ := hown
  rcases h2 with ⟨_, h2⟩ | ⟨g, cap, cur, rfl, hbase, hg, hcap, h3, h4, ht⟩
  · omega
  · refine ⟨g, cap, rfl, ?_, hbase, ⟨(Array.getElem?_eq_some_iff.1 hg).1, fun i k hi hk => ?_⟩, hb⟩
    · first | omega | exact hcap
    · rw [hown'.cellAt (i * 9 + k) (by omega), TC_get 166 i k hi hk]

/-- the cells of a row, one by one -/
theorem TabAt.cells {w : World} {g : Nat} (h : TabAt w g) (i : Nat) (hi : i < 166) :
    w.cell? ⟨g, i * 9, none⟩ = some (.int .i32 (fr i)) ∧ w.cell? ⟨g, i * 9 + 1, none⟩ = some (.int .i32 (to i)) ∧ w.cell? ⟨g, i * 9 + 2, none⟩ = some (.int .u8 (Ucd.g (pr i) 0)) ∧ w.cell? ⟨g, i * 9 + 3, none⟩ = some (.int .u8 (Ucd.g (pr i) 1)) ∧ w.cell? ⟨g, i * 9 + 4, none⟩ = some (.int .u8 (Ucd.g (pr i) 2)) ∧ w.cell? ⟨g, i * 9 + 5, none⟩ = some (.int .u8 (Ucd.g (pr i) 3)) ∧ w.cell? ⟨g, i * 9 + 6, none⟩ = some (.int .u8 (Ucd.g (pr i) 4)) ∧ w.cell? ⟨g, i * 9 + 7, none⟩ = some (.int .u8 (Ucd.g (pr i) 5)) ∧ w.cell? ⟨g, i * 9 + 8, none⟩ = some (.int .u8 (Ucd.g (pr i) 6)) :=
  ⟨h.2 i 0 hi (by omega), h.2 i 1 hi (by omega), h.2 i 2 hi (by omega), h.2 i 3 hi (by omega), h.2 i 4 hi (by omega), h.2 i 5 hi (by omega), h.2 i 6 hi (by omega), h.2 i 7 hi (by omega), h.2 i 8 hi (by omega)⟩

/-- a code point is no bracket, or one of two -/
theorem br_spec (c : Int) : br c = (0, false, false) ∨ ∃ o b x, br c = (o, b, true) ∧ br o = (c, !b, true) ∧ of c = [6, 13, 0, 0, 0, 0, x] ∧ of o = [6, 13, 0, 0, 0, 0, x] := by
  by_cases h0 : c ∈ brl
  · simp only [brl, List.mem_cons, List.mem_nil_iff, or_false] at h0
    rcases h0 with rfl | rfl | rfl | rfl | rfl | rfl | rfl | rfl | rfl | rfl | rfl | rfl | rfl | rfl
    all_goals first
      | exact .inr ⟨_, _, 1, rfl, rfl, by decide +kernel, by decide +kernel⟩
      | exact .inr ⟨_, _, 2, rfl, rfl, by decide +kernel, by decide +kernel⟩
  · simp only [brl, List.mem_cons, List.mem_nil_iff, or_false, not_or] at h0
    exact .inl (by simp [br, h0])

end Go.Proofs.YteggchjehfkppaaDoor
