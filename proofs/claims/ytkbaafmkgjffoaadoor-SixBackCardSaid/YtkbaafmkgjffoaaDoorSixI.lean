/-
  What the laws share: an address taken apart; the bytes of pieces put together.
-/
import Derived.Test.YtkbaafmkgjffoaaDoorSixH
namespace Go.Proofs.YtkbaafmkgjffoaaDoor.Sx
open Go.RowKit Go.Shelf

theorem eight {x : List Nat} (h : x.length = 8) : ∃ a b c d e f g i, x = [a, b, c, d, e, f, g, i] := by
  rcases x with _ | ⟨a, _ | ⟨b, _ | ⟨c, _ | ⟨d, _ | ⟨e, _ | ⟨f, _ | ⟨g, _ | ⟨i, _ | ⟨j, t⟩⟩⟩⟩⟩⟩⟩⟩⟩
  · simp at h
  · simp at h
  · simp at h
  · simp at h
  · simp at h
  · simp at h
  · simp at h
  · simp at h
  · exact ⟨a, b, c, d, e, f, g, i, rfl⟩
  · simp at h
theorem jn_mem : ∀ (ps : List (List UInt8)) (c : UInt8), c ∈ jn ps → c = 58 ∨ ∃ p ∈ ps, c ∈ p
  | [], c, h => by simp [jn_nil] at h
  | [p], c, h => by rw [jn_one] at h; exact .inr ⟨p, by simp, h⟩
  | p :: q :: r, c, h => by
    rw [jn_two] at h
    rcases List.mem_append.1 h with h | h
    · exact .inr ⟨p, List.mem_cons_self .., h⟩
    · rcases List.mem_cons.1 h with h | h
      · exact .inl h
      · rcases jn_mem (q :: r) c h with h | ⟨s, h1, h2⟩
        · exact .inl h
        · exact .inr ⟨s, List.mem_cons_of_mem _ h1, h2⟩
theorem Hx.eight {w : World} {B x0 x1 x2 x3 x4 x5 x6 x7 : Nat} (h : Hx w B [x0, x1, x2, x3, x4, x5, x6, x7]) : w.cell? ⟨B, 0, none⟩ = some (.int .u16 (x0 : Int)) ∧ w.cell? ⟨B, 1, none⟩ = some (.int .u16 (x1 : Int)) ∧ w.cell? ⟨B, 2, none⟩ = some (.int .u16 (x2 : Int)) ∧ w.cell? ⟨B, 3, none⟩ = some (.int .u16 (x3 : Int)) ∧ w.cell? ⟨B, 4, none⟩ = some (.int .u16 (x4 : Int)) ∧ w.cell? ⟨B, 5, none⟩ = some (.int .u16 (x5 : Int)) ∧ w.cell? ⟨B, 6, none⟩ = some (.int .u16 (x6 : Int)) ∧ w.cell? ⟨B, 7, none⟩ = some (.int .u16 (x7 : Int)) :=
  ⟨h.cell (k := 0) (by simp), h.cell (k := 1) (by simp), h.cell (k := 2) (by simp), h.cell (k := 3) (by simp), h.cell (k := 4) (by simp), h.cell (k := 5) (by simp), h.cell (k := 6) (by simp), h.cell (k := 7) (by simp)⟩
end Go.Proofs.YtkbaafmkgjffoaaDoor.Sx
