/-
  Plain mathematics of Punycode: the deltas as a walk through the rows tells them. Nothing of the program.
-/
import Derived.Test.YtcdjjodiiaahfaaPunyMath2
namespace Puny

/-- how many code points are put ahead of the a-th scalar that is not basic -/
def hat (l : List Nat) (a : Nat) : Nat := (l.filter (fun x => decide (x ∉ (ms l).drop a))).length
/-- the insertions up to there -/
def eat (l : List Nat) (a : Nat) : List (Nat × Nat) := ((ms l).take a).flatMap fun m => scan m l 0
/-- how many of those so far are not greater -/
def pat (l : List Nat) (m b : Nat) : Nat := ((l.take b).filter (· ≤ m)).length
/-- how many below it come later -/
def qat (l : List Nat) (m b : Nat) : Nat := ((l.drop b).filter (· < m)).length

theorem drop_cons {α : Type} {l : List α} {a : Nat} (h : a < l.length) : l.drop a = l[a] :: l.drop (a + 1) := List.drop_eq_getElem_cons h

theorem split_rem (l : List Nat) (a : Nat) : ∀ x ∈ l, x ∈ (ms l).drop a ∨ ∀ y ∈ (ms l).drop a, x < y := by
  intro x hx
  have hp := ms_rise l
  by_cases h : 128 ≤ x
  · have hm := (ms_mem l x).2 ⟨hx, h⟩
    rw [← List.take_append_drop a (ms l)] at hm hp
    rw [List.pairwise_append] at hp
    rcases List.mem_append.1 hm with h1 | h1
    · exact .inr fun y hy => hp.2.2 x h1 y hy
    · exact .inl h1
  · exact .inr fun y hy => by have := ((ms_mem l y).1 (List.mem_of_mem_drop hy)).2; omega

theorem hat_aux {l rem : List Nat} {m : Nat} (hp : (m :: rem).Pairwise (· < ·)) (hs : ∀ x ∈ l, x ∈ m :: rem ∨ ∀ y ∈ m :: rem, x < y) :
    l.filter (fun x => decide (x ∉ m :: rem)) = l.filter (· < m) ∧ l.filter (fun x => decide (x ∉ rem)) = l.filter (· ≤ m) := by
  rw [List.pairwise_cons] at hp
  refine ⟨List.filter_congr fun x hx => ?_, List.filter_congr fun x hx => ?_⟩
  · rcases hs x hx with h | h
    · rcases List.mem_cons.1 h with h1 | h1
      · simp [h1]
      · have := hp.1 x h1
        simp [h1]; omega
    · have h1 := h m (by simp)
      have h2 : x ∉ m :: rem := fun hh => by have := h x hh; omega
      rw [decide_eq_true h2]
      simpa using h1
  · rcases hs x hx with h | h
    · rcases List.mem_cons.1 h with h1 | h1
      · have h2 : x ∉ rem := fun hh => by have := hp.1 x hh; omega
        rw [decide_eq_true h2]
        simp [h1]
      · have := hp.1 x h1
        simp [h1]; omega
    · have h1 := h m (by simp)
      have h2 : x ∉ rem := fun hh => by have := h x (List.mem_cons_of_mem _ hh); omega
      rw [decide_eq_true h2]
      simp; omega

theorem hat_below (l : List Nat) {a : Nat} (ha : a < (ms l).length) : hat l a = (l.filter (· < (ms l)[a])).length := by
  have hp := (ms_rise l).drop (i := a)
  have hs := split_rem l a
  unfold hat
  rw [drop_cons ha] at hp hs ⊢
  rw [(hat_aux hp hs).1]

theorem hat_upto (l : List Nat) {a : Nat} (ha : a < (ms l).length) : hat l (a + 1) = (l.filter (· ≤ (ms l)[a])).length := by
  have hp := (ms_rise l).drop (i := a)
  have hs := split_rem l a
  unfold hat
  rw [drop_cons ha] at hp hs
  rw [(hat_aux hp hs).2]

theorem hat_zero (l : List Nat) : hat l 0 = (basics l).length := by
  unfold hat basics
  congr 1
  refine List.filter_congr fun x hx => ?_
  rw [decide_eq_decide, List.drop_zero, ms_mem]
  constructor
  · intro h1
    rcases Nat.lt_or_ge x 128 with h2 | h2
    · exact h2
    · exact absurd ⟨hx, h2⟩ h1
  · intro h1 h2; omega

theorem hat_start (l : List Nat) {a : Nat} (ha : a < (ms l).length) : hat l a = pat l (ms l)[a] 0 + qat l (ms l)[a] 0 := by
  rw [hat_below l ha]; simp [pat, qat]
theorem hat_done (l : List Nat) {a : Nat} (ha : a < (ms l).length) : hat l (a + 1) = pat l (ms l)[a] l.length + qat l (ms l)[a] l.length := by
  rw [hat_upto l ha]; simp [pat, qat]

theorem take_snoc' {α : Type} {l : List α} {b : Nat} (h : b < l.length) : l.take (b + 1) = l.take b ++ [l[b]] := List.take_succ_eq_append_getElem h

theorem pat_le (l : List Nat) (m b : Nat) : pat l m b ≤ l.length := by
  unfold pat
  exact Nat.le_trans (List.length_filter_le _ _) (by rw [List.length_take]; omega)
theorem pq_le (l : List Nat) (m b : Nat) (hb : b ≤ l.length) : pat l m b + qat l m b ≤ l.length := by
  unfold pat qat
  have h1 := List.length_filter_le (fun x => decide (x ≤ m)) (l.take b)
  have h2 := List.length_filter_le (fun x => decide (x < m)) (l.drop b)
  rw [List.length_take] at h1
  rw [List.length_drop] at h2
  omega

section
variable {l : List Nat} {m b : Nat}
theorem pat_le_step (h : b < l.length) (hx : l[b] ≤ m) : pat l m (b + 1) = pat l m b + 1 := by
  unfold pat; rw [take_snoc' h, List.filter_append]; simp [hx]
theorem pat_gt_step (h : b < l.length) (hx : ¬ l[b] ≤ m) : pat l m (b + 1) = pat l m b := by
  unfold pat; rw [take_snoc' h, List.filter_append, List.filter_cons, if_neg (by simpa using hx)]; simp
theorem qat_lt_step (h : b < l.length) (hx : l[b] < m) : qat l m b = qat l m (b + 1) + 1 := by
  unfold qat; rw [drop_cons h, List.filter_cons, if_pos (by simpa using hx)]; rfl
theorem qat_ge_step (h : b < l.length) (hx : ¬ l[b] < m) : qat l m b = qat l m (b + 1) := by
  unfold qat; rw [drop_cons h, List.filter_cons, if_neg (by simpa using hx)]

theorem scan_take (h : b < l.length) : scan m (l.take (b + 1)) 0 = scan m (l.take b) 0 ++ (if l[b] = m then [(m, pat l m b)] else []) := by
  rw [take_snoc' h, scan_append, Nat.zero_add]
  congr 1
  rw [scan]
  by_cases h1 : l[b] = m
  · rw [if_pos h1, if_pos h1]; rfl
  · rw [if_neg h1, if_neg h1]; split <;> rfl
end

theorem eat_step (l : List Nat) {a : Nat} (ha : a < (ms l).length) : eat l (a + 1) = eat l a ++ scan (ms l)[a] l 0 := by
  unfold eat; rw [take_snoc' ha, List.flatMap_append]; simp
theorem eat_all (l : List Nat) : eat l (ms l).length = evs l := by unfold eat evs; rw [List.take_length]
theorem dels_len : ∀ (es : List (Nat × Nat)) (h n i : Nat), (dels es h n i).length = es.length
  | [], _, _, _ => rfl
  | (a, b) :: es, h, n, i => by rw [dels, List.length_cons, dels_len, List.length_cons]

theorem once_len (l : List Nat) : (once l).length ≤ l.length := by
  fun_induction once l with
  | case1 => exact Nat.le_refl _
  | case2 => exact Nat.le_refl _
  | case3 x l ih => exact Nat.le_trans ih (by simp)
  | case4 x y l h ih => simpa using ih
theorem ms_len (l : List Nat) : (ms l).length ≤ l.length := by
  unfold ms
  refine Nat.le_trans (once_len _) ?_
  rw [List.length_mergeSort]
  exact List.length_filter_le _ _

end Puny
