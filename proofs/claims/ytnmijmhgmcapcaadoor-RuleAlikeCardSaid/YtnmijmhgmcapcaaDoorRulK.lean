/-
  fascialaw09.RuleAlike: the table cell by cell; a code point of the same class.
-/
import Derived.Test.YtnmijmhgmcapcaaDoorRulH
import Derived.Test.YtnmijmhgmcapcaaDoorUcdTable
namespace Go.Proofs.YtnmijmhgmcapcaaDoor.Rul
open Go.RowKit Ucd

/-- the table lies at g -/
def TabAt (w : World) (g : Nat) : Prop := g < w.heap.size ∧ ∀ i k, i < 166 → k < 9 → w.cell? ⟨g, i * 9 + k, none⟩ = (rc i)[k]?
theorem TabAt.go {w w' : World} {g : Nat} (h : TabAt w g) (hb : Below w.heap.size w w') : TabAt w' g :=
  ⟨Nat.lt_of_lt_of_le h.1 hb.size, fun i k hi hk => (hb.cell (p := ⟨g, i * 9 + k, none⟩) h.1).trans (h.2 i k hi hk)⟩
def TableOut (w : World) (e : Ending) (w' : World) : Prop :=
  ∃ g cap, e = .returned (.slice (some ⟨g, 0, none⟩) 166 cap) ∧ 166 ≤ cap ∧ w.heap.size ≤ g ∧ TabAt w' g ∧ Below w.heap.size w w'

theorem Table_out (w : World) : Calls Tryd.prog 14 #[] w (TableOut w) := by
  refine (Table_any w).mono ?_
  rintro e w' ⟨v, rfl, hown, hb⟩
  have hown' := hown
  obtain ⟨h1, h2⟩ := hown
  rcases h2 with ⟨_, h2⟩ | ⟨g, cap, cur, rfl, hbase, hg, hcap, h3, h4, ht⟩
  · omega
  · refine ⟨g, cap, rfl, ?_, hbase, ⟨(Array.getElem?_eq_some_iff.1 hg).1, fun i k hi hk => ?_⟩, hb⟩
    · first | omega | exact hcap
    · rw [hown'.cellAt (i * 9 + k) (by omega), TC_get 166 i k hi hk]

/-- the cells of a row, one by one -/
theorem TabAt.cells {w : World} {g : Nat} (h : TabAt w g) (i : Nat) (hi : i < 166) :
    w.cell? ⟨g, i * 9, none⟩ = some (.int .i32 (fr i)) ∧ w.cell? ⟨g, i * 9 + 1, none⟩ = some (.int .i32 (Ucd.to i)) ∧ w.cell? ⟨g, i * 9 + 2, none⟩ = some (.int .u8 (Ucd.g (pr i) 0)) ∧ w.cell? ⟨g, i * 9 + 3, none⟩ = some (.int .u8 (Ucd.g (pr i) 1)) ∧ w.cell? ⟨g, i * 9 + 4, none⟩ = some (.int .u8 (Ucd.g (pr i) 2)) ∧ w.cell? ⟨g, i * 9 + 5, none⟩ = some (.int .u8 (Ucd.g (pr i) 3)) ∧ w.cell? ⟨g, i * 9 + 6, none⟩ = some (.int .u8 (Ucd.g (pr i) 4)) ∧ w.cell? ⟨g, i * 9 + 7, none⟩ = some (.int .u8 (Ucd.g (pr i) 5)) ∧ w.cell? ⟨g, i * 9 + 8, none⟩ = some (.int .u8 (Ucd.g (pr i) 6)) :=
  ⟨h.2 i 0 hi (by omega), h.2 i 1 hi (by omega), h.2 i 2 hi (by omega), h.2 i 3 hi (by omega), h.2 i 4 hi (by omega), h.2 i 5 hi (by omega), h.2 i 6 hi (by omega), h.2 i 7 hi (by omega), h.2 i 8 hi (by omega)⟩

theorem fr_tab : (List.range 166).all (fun i => decide (fr i ≤ Ucd.to i)) = true := by decide +kernel
theorem bc_fr {i : Nat} (h : i < 166) : bc (fr i) = g (pr i) 1 := by
  have h1 := List.all_eq_true.1 fr_tab i (List.mem_range.2 h)
  have := (of_row h (Int.le_refl _) (of_decide_eq_true h1)).2
  unfold bc
  rw [this]
theorem chk_like {R l : List Int} (h : R.map bc = l.map bc) : chk R = chk l := by unfold chk; rw [h]
theorem bid_like {R l : List Int} (h : R.map bc = l.map bc) : bid R = bid l := by unfold bid; rw [h]
theorem like_snoc {R l : List Int} {k : Nat} {r : Int} (h : R.map bc = (l.take k).map bc) (hk : k < l.length) (hr : bc r = bc l[k]!) : (R ++ [r]).map bc = (l.take (k + 1)).map bc := by
  rw [List.map_append, h, List.take_succ_eq_append_getElem hk, List.map_append, List.map_singleton, List.map_singleton, hr, getElem!_pos l k hk]
theorem cl_snoc (R : List Int) (r : Int) : cl .i32 (R ++ [r]) = cl .i32 R ++ [.int .i32 r] := by simp [cl]
theorem row_cell8' {w : World} {b o : Nat} {l : List Int} (hc : ∀ k, k < (cl .u8 l).length → w.cell? ⟨b, o + k, none⟩ = (cl .u8 l)[k]?) (k : Nat) (hk : k < l.length) : w.cell? ⟨b, o + k, none⟩ = some (.int .u8 l[k]!) := by
  rw [hc k (by simpa using hk), List.getElem?_map, gets hk]
  rfl
theorem below_drew {w wA : World} (h : Below w.drew.heap.size w.drew wA) : Below w.heap.size w wA := ⟨h.os, h.tape, h.output, h.size, h.block⟩
theorem nine (w : World) (a b : Int) (p : List Int) : ∀ W, w.alloc (.cells #[.int .i32 a, .int .i32 b, .int .u8 (g p 0), .int .u8 (g p 1), .int .u8 (g p 2), .int .u8 (g p 3), .int .u8 (g p 4), .int .u8 (g p 5), .int .u8 (g p 6)] 35) = W →
    W.cell? ⟨w.heap.size, 0, none⟩ = some (.int .i32 a) ∧ W.cell? ⟨w.heap.size, 3, none⟩ = some (.int .u8 (g p 1)) ∧ Below w.heap.size w W ∧ w.heap.size < W.heap.size := by
  rintro W rfl
  exact ⟨by simp, by simp, (Below.refl _ _).alloc (Nat.le_refl _) _, by simp⟩
end Go.Proofs.YtnmijmhgmcapcaaDoor.Rul
