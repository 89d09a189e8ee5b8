/-
  fascialaw10.MixedPairs: the table cell by cell.
-/
import Derived.Test.YtjpmecdjlodaoaaDoorMixF
import Derived.Test.YtjpmecdjlodaoaaDoorUcdTable
namespace Go.Proofs.YtjpmecdjlodaoaaDoor.Mix
open Go.RowKit Ucd Rul

/-- the table lies at g -/
def TabAt (w : World) (g : Nat) : Prop := g < w.heap.size ∧ ∀ i k, i < 166 → k < 9 → w.cell? ⟨g, i * 9 + k, none⟩ = (rc i)[k]?
theorem TabAt.go {w w' : World} {g : Nat} (h : TabAt w g) (hb : Below w.heap.size w w') : TabAt w' g :=
  ⟨Nat.lt_of_lt_of_le h.1 hb.size, fun i k hi hk => (hb.cell (p := ⟨g, i * 9 + k, none⟩) h.1).trans (h.2 i k hi hk)⟩
def TableOut (w : World) (e : Ending) (w' : World) : Prop :=
  ∃ g cap, e = .returned (.slice (some ⟨g, 0, none⟩) 166 cap) ∧ 166 ≤ cap ∧ w.heap.size ≤ g ∧ TabAt w' g ∧ Below w.heap.size w w'
theorem Table_out (w : World) : Calls Tryd.prog 17 #[] w (TableOut w) := by
  refine (Table_any w).mono ?_
  rintro e w' ⟨v, rfl, hown, hb⟩
  have hown' := hown
  obtain ⟨h1, h2⟩ := hown
  rcases h2 with ⟨_, h2⟩ | ⟨g, cap, cur, rfl, hbase, hg, hcap, h3, h4, ht⟩
  · omega
  · refine ⟨g, cap, rfl, ?_, hbase, ⟨(Array.getElem?_eq_some_iff.1 hg).1, fun i k hi hk => ?_⟩, hb⟩
    · first | omega | exact hcap
    · rw [hown'.cellAt (i * 9 + k) (by omega), TC_get 166 i k hi hk]
/-- the nine cells of a row -/
abbrev rw9 (i : Nat) : List Value := [.int .i32 (fr i), .int .i32 (Ucd.to i), .int .u8 (g (pr i) 0), .int .u8 (g (pr i) 1), .int .u8 (g (pr i) 2), .int .u8 (g (pr i) 3), .int .u8 (g (pr i) 4), .int .u8 (g (pr i) 5), .int .u8 (g (pr i) 6)]
theorem TabAt.range {w : World} {g : Nat} (h : TabAt w g) (i : Nat) (hi : i < 166) : w.rangeAt g (i * 9) (rw9 i) := fun j v hv => by
  have hj : j < 9 := (List.getElem?_eq_some_iff.1 hv).1
  rw [h.2 i j hi hj]
  exact hv
end Go.Proofs.YtjpmecdjlodaoaaDoor.Mix
