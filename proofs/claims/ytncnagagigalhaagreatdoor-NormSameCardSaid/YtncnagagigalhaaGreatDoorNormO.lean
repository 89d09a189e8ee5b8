/-
  norm: a row of classed of the call's own, before and behind a sort of a part of it.
-/
import Derived.Test.YtncnagagigalhaaGreatDoorNormN
namespace Go.Proofs.YtncnagagigalhaaGreatDoor
open Go.RowKit Norm Go.Shelf Go.Sort Go.Lib

def c2 (l : List C) : List Value := l.flatMap encC
theorem c2_len (l : List C) : (c2 l).length = l.length * 2 := by
  induction l with
  | nil => rfl
  | cons x t ih => unfold c2 at ih ⊢; rw [List.flatMap_cons, List.length_append, ih, List.length_cons, encC_len]; omega
theorem c2_append (a b : List C) : c2 (a ++ b) = c2 a ++ c2 b := by unfold c2; rw [List.flatMap_append]
theorem c2_get : ∀ (l : List C) (t : Nat), t < l.length * 2 → (c2 l)[t]? = some ((encC l[t / 2]!)[t % 2]!)
  | [], t, h => by simp at h
  | x :: l, 0, _ => rfl
  | x :: l, 1, _ => rfl
  | x :: l, t + 2, h => by
    have h1 := c2_get l t (by simp only [List.length_cons] at h; omega)
    have e : (c2 (x :: l))[t + 2]? = (c2 l)[t]? := by
      show (encC x ++ c2 l)[t + 2]? = _
      rw [List.getElem?_append_right (by simp [encC])]
      simp [encC]
    rw [e, h1, show (t + 2) / 2 = t / 2 + 1 from by omega, show (t + 2) % 2 = t % 2 from by omega]
    simp
theorem flatK_c2 (l : List C) : (flatK encC 2 l.toArray).toList = c2 l := by
  apply List.ext_getElem?
  intro t
  by_cases h : t < l.length * 2
  · rw [c2_get l t h]
    have hs : (flatK encC 2 l.toArray).size = l.length * 2 := by simp [flatK]
    rw [Array.getElem?_toList, Array.getElem?_eq_getElem (by omega)]
    have := get_flatK encC 2 l.toArray t (by simpa using h)
    rw [getElem!_pos _ t (by omega)] at this
    rw [this]
    simp
  · rw [List.getElem?_eq_none (by simp [flatK]; omega), List.getElem?_eq_none (by rw [c2_len]; omega)]
theorem flatK_sz (l : List C) : (flatK encC 2 l.toArray).size = l.length * 2 := by simp [flatK]

section
variable {w : World} {base g cap n : Nat} {e : TypeId} {P M S : List C}
theorem own_holds (h : w.ownsRow base e 2 (.slice (some ⟨g, 0, none⟩) n cap) n (c2 (P ++ M ++ S))) : HoldsK encC 2 w g (2 * P.length) M.toArray ∧ g < w.heap.size ∧ base ≤ g := by
  rcases h.2 with ⟨h0, _⟩ | ⟨g', cap', cur, hv, hbase, hb, h1, h2, h3, ht⟩
  · cases h0
  cases hv
  refine ⟨fun j hj => ⟨?_, by simp [World.frozen?, hb]⟩, (Array.getElem?_eq_some_iff.1 hb).1, hbase⟩
  have hn := h.1
  rw [c2_len, List.length_append, List.length_append] at hn
  rw [flatK_sz] at hj
  have h4 : (cur.toList.take (n * 2))[2 * P.length + j]? = (c2 (P ++ M ++ S))[2 * P.length + j]? := by rw [ht]
  rw [List.getElem?_take_of_lt (by omega)] at h4
  simp only [World.cell?, hb]
  simp only [Option.isSome_none, Bool.false_eq_true, if_false]
  rw [← Array.getElem?_toList, h4, c2_append, c2_append, List.append_assoc, List.getElem?_append_right (by rw [c2_len]; omega), c2_len, show 2 * P.length + j - P.length * 2 = j from by omega, List.getElem?_append_left (by rw [c2_len]; omega), ← flatK_c2, Array.getElem?_toList, Array.getElem?_eq_getElem (by rw [flatK_sz]; omega)]
  rw [getElem!_pos _ j (by rw [flatK_sz]; omega)]
  rfl
theorem own_put {M' : List C} (h : w.ownsRow base e 2 (.slice (some ⟨g, 0, none⟩) n cap) n (c2 (P ++ M ++ S))) (hl : M'.length = M.length) (q : Nat) (os : Array Obj) :
    (sortWorldK encC 2 w g (2 * P.length) q M'.toArray os).ownsRow base e 2 (.slice (some ⟨g, 0, none⟩) n cap) n (c2 (P ++ M' ++ S)) ∧ w.grownBy (sortWorldK encC 2 w g (2 * P.length) q M'.toArray os) (some g) := by
  rcases h.2 with ⟨h0, _⟩ | ⟨g', cap', cur, hv, hbase, hb, h1, h2, h3, ht⟩
  · cases h0
  cases hv
  have hn := h.1
  rw [c2_len, List.length_append, List.length_append] at hn
  have hg : g < w.heap.size := (Array.getElem?_eq_some_iff.1 hb).1
  have hblk : (sortWorldK encC 2 w g (2 * P.length) q M'.toArray os).heap[g]? = some (.cells (putCells id (2 * P.length) (flatK encC 2 M'.toArray) cur) e (0, 0)) := by
    unfold sortWorldK putRowK
    rw [heap_grow_old _ _ (by simpa using hg)]
    simp [putRow, mapBlock, Sort.ahead, Array.getElem?_modify, hb, onCells]
  refine ⟨⟨by rw [c2_len, List.length_append, List.length_append]; omega, .inr ⟨g, cap, _, rfl, hbase, hblk, h1, h2, by simp [putCells, h3], ?_⟩⟩, rfl, rfl, rfl, by simp [sortWorldK, putRowK], fun k hk hne => ?_⟩
  · apply List.ext_getElem?
    intro t
    by_cases hlt : t < n * 2
    · have hc : t < cur.size := by rw [h3]; have := Nat.mul_le_mul_right 2 h1; omega
      have h4 : (cur.toList.take (n * 2))[t]? = (c2 (P ++ M ++ S))[t]? := by rw [ht]
      rw [List.getElem?_take_of_lt hlt, Array.getElem?_toList] at h4 ⊢
      unfold putCells
      rw [Array.getElem?_mapIdx, Array.getElem?_eq_getElem hc, Option.map_some, flatK_sz]
      rw [Array.getElem?_eq_getElem hc] at h4
      split
      · rename_i hw
        rw [getElem!_pos _ (t - 2 * P.length) (by rw [flatK_sz]; omega), id_eq, ← Array.getElem?_eq_getElem, ← Array.getElem?_toList, flatK_c2, c2_append, c2_append, List.append_assoc, List.getElem?_append_right (by rw [c2_len]; omega), c2_len, List.getElem?_append_left (by rw [c2_len]; omega), Nat.mul_comm 2]
      · rename_i hw
        rw [h4, c2_append, c2_append, c2_append, c2_append, List.append_assoc, List.append_assoc]
        by_cases hp : t < P.length * 2
        · rw [List.getElem?_append_left (by rw [c2_len]; omega), List.getElem?_append_left (by rw [c2_len]; omega)]
        · have e1 := c2_len P
          have e2 := c2_len M
          have e3 := c2_len M'
          rw [List.getElem?_append_right (l₁ := c2 P) (by omega), List.getElem?_append_right (l₁ := c2 P) (by omega), List.getElem?_append_right (l₁ := c2 M) (by omega), List.getElem?_append_right (l₁ := c2 M') (by omega), e2, e3, hl]
    · rw [List.getElem?_take_eq_none (by omega), List.getElem?_eq_none (by rw [c2_len, List.length_append, List.length_append]; omega)]
  · unfold sortWorldK putRowK
    rw [heap_grow_old _ _ (by simpa using hk)]
    have : g ≠ k := fun e => hne (by rw [e])
    simp [putRow, mapBlock, Sort.ahead, Array.getElem?_modify, this]
end
end Go.Proofs.YtncnagagigalhaaGreatDoor
