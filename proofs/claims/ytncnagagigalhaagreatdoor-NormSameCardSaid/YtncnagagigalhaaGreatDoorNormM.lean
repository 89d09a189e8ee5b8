/-
  norm: in canonical order, as plain mathematics: what is sorted by class, those of one class in their order, is unique; the insertion sort is such a sort.
-/
import Derived.Test.YtncnagagigalhaaGreatDoorNormL
namespace Go.Proofs.YtncnagagigalhaaGreatDoor
open Norm Go.Sort

def Srt (l : List C) : Prop := l.Pairwise (fun a b => a.2 ≤ b.2)
def Stb (l l' : List C) : Prop := ∀ c : Int, l.filter (fun x => x.2 == c) = l'.filter (fun x => x.2 == c)
theorem Stb.refl (l : List C) : Stb l l := fun _ => rfl
theorem Stb.trans {a b c : List C} (h : Stb a b) (k : Stb b c) : Stb a c := fun x => (h x).trans (k x)
theorem Stb.symm {a b : List C} (h : Stb a b) : Stb b a := fun x => (h x).symm
theorem Stb.mem {l l' : List C} (h : Stb l l') {y : C} (hy : y ∈ l) : y ∈ l' := by
  have h1 : y ∈ l.filter (fun x => x.2 == y.2) := List.mem_filter.2 ⟨hy, by simp⟩
  rw [h y.2] at h1
  exact (List.mem_filter.1 h1).1
theorem Stb.append {a b c d : List C} (h : Stb a b) (k : Stb c d) : Stb (a ++ c) (b ++ d) := fun x => by rw [List.filter_append, List.filter_append, h x, k x]
theorem srt_unique : ∀ l l' : List C, Srt l → Srt l' → Stb l l' → l = l'
  | [], [], _, _, _ => rfl
  | [], y :: t, _, _, h => by have := h.symm.mem (List.mem_cons_self (a := y) (l := t)); simp at this
  | x :: t, [], _, _, h => by have := h.mem (List.mem_cons_self (a := x) (l := t)); simp at this
  | x :: t, y :: t', hs, hs', h => by
    have hs1 := List.pairwise_cons.1 hs
    have hs2 := List.pairwise_cons.1 hs'
    have e1 : x.2 ≤ y.2 := by
      rcases List.mem_cons.1 (h.symm.mem (List.mem_cons_self (a := y) (l := t'))) with e | e
      · rw [e]; exact Int.le_refl _
      · exact hs1.1 y e
    have e2 : y.2 ≤ x.2 := by
      rcases List.mem_cons.1 (h.mem (List.mem_cons_self (a := x) (l := t))) with e | e
      · rw [e]; exact Int.le_refl _
      · exact hs2.1 x e
    have e3 : x.2 = y.2 := Int.le_antisymm e1 e2
    have h1 := h x.2
    rw [List.filter_cons_of_pos (by simp), List.filter_cons_of_pos (by simp [e3])] at h1
    have hxy : x = y := (List.cons.inj h1).1
    subst hxy
    rw [srt_unique t t' hs1.2 hs2.2 fun c => by
      have := h c
      by_cases hc : x.2 = c
      · rw [List.filter_cons_of_pos (by simp [hc]), List.filter_cons_of_pos (by simp [hc])] at this
        exact (List.cons.inj this).2
      · rw [List.filter_cons_of_neg (by simp [hc]), List.filter_cons_of_neg (by simp [hc])] at this
        exact this]

theorem mem_insC (x z : C) : ∀ l, z ∈ insC x l ↔ z = x ∨ z ∈ l
  | [] => by simp [insC]
  | y :: t => by
    unfold insC
    split
    · simp
    · rw [List.mem_cons, mem_insC x z t, List.mem_cons]
      constructor
      · rintro (h | h | h) <;> simp [h]
      · rintro (h | h | h) <;> simp [h]
theorem insC_srt (x : C) : ∀ l, Srt l → Srt (insC x l)
  | [], _ => List.pairwise_singleton _ _
  | y :: t, h => by
    have h1 := List.pairwise_cons.1 h
    unfold insC
    split
    · rename_i hlt
      refine List.pairwise_cons.2 ⟨fun z hz => ?_, h⟩
      rcases List.mem_cons.1 hz with rfl | hz
      · exact Int.le_of_lt hlt
      · exact Int.le_trans (Int.le_of_lt hlt) (h1.1 z hz)
    · rename_i hge
      refine List.pairwise_cons.2 ⟨fun z hz => ?_, insC_srt x t h1.2⟩
      rcases (mem_insC x z t).1 hz with rfl | hz
      · omega
      · exact h1.1 z hz
theorem insC_stb (x : C) (c : Int) : ∀ l, Srt l → (insC x l).filter (fun x => x.2 == c) = l.filter (fun x => x.2 == c) ++ [x].filter (fun x => x.2 == c)
  | [], _ => by simp [insC]
  | y :: t, h => by
    have h1 := List.pairwise_cons.1 h
    unfold insC
    split
    · rename_i hlt
      by_cases hc : x.2 = c
      · have : (y :: t).filter (fun x => x.2 == c) = [] := by
          rw [List.filter_eq_nil_iff]
          intro z hz
          rcases List.mem_cons.1 hz with rfl | hz
          · simp; omega
          · have := h1.1 z hz; simp; omega
        rw [List.filter_cons, if_pos (by simp [hc]), this]
        simp [hc]
      · rw [List.filter_cons, if_neg (by simp [hc])]
        simp [hc]
    · by_cases hc : y.2 = c
      · rw [List.filter_cons_of_pos (a := y) (by simp [hc]), insC_stb x c t h1.2, List.filter_cons_of_pos (a := y) (by simp [hc])]
        rfl
      · rw [List.filter_cons_of_neg (a := y) (by simp [hc]), insC_stb x c t h1.2, List.filter_cons_of_neg (a := y) (by simp [hc])]
theorem foldIns : ∀ (l acc : List C), Srt acc → Srt (l.foldl (fun a x => insC x a) acc) ∧ ∀ c : Int, (l.foldl (fun a x => insC x a) acc).filter (fun x => x.2 == c) = acc.filter (fun x => x.2 == c) ++ l.filter (fun x => x.2 == c)
  | [], acc, h => ⟨h, fun c => by simp⟩
  | x :: t, acc, h => by
    obtain ⟨h1, h2⟩ := foldIns t (insC x acc) (insC_srt x acc h)
    refine ⟨h1, fun c => ?_⟩
    rw [List.foldl_cons, h2 c, insC_stb x c acc h, List.append_assoc, ← List.filter_append]
    rfl
theorem isort_srt (l : List C) : Srt (isort l) := (foldIns l [] List.Pairwise.nil).1
theorem isort_stb (l : List C) : Stb l (isort l) := fun c => by rw [isort, (foldIns l [] List.Pairwise.nil).2 c]; rfl
theorem isort_of {l l' : List C} (h : Srt l') (k : Stb l l') : l' = isort l := srt_unique _ _ h (isort_srt l) (k.symm.trans (isort_stb l))
theorem isort_srt_self {l : List C} (h : Srt l) : isort l = l := (isort_of h (Stb.refl l)).symm
theorem stb_len {l l' : List C} (h : Stb l l') : l.length = l'.length := by
  have : List.Perm l l' := by
    rw [List.perm_iff_count]
    intro a
    have := h a.2
    have e : ∀ l : List C, l.count a = (l.filter (fun x => x.2 == a.2)).count a := fun l => by rw [List.count_filter (by simp)]
    rw [e l, e l', this]
  exact this.length_eq
theorem isort_len (l : List C) : (isort l).length = l.length := (stb_len (isort_stb l)).symm

/-! the array's insertion sort -/
theorem ltC (x y : C) : ltOf cfC x y = decide (x.2 < y.2) := by
  unfold Go.Proofs.ltOf cfC cmpZ
  by_cases h : x.2 < y.2
  · simp [h]
  · rw [if_neg h]
    split <;> simp [h]
theorem swoC : SWO (ltOf cfC) := ⟨fun x => by simp [ltC], fun x y z h1 h2 => by simp [ltC] at *; omega, fun x y z h1 h2 => by simp [ltC] at *; omega⟩
theorem toList_swp (d : Array C) (i j : Nat) : (swp d i j).toList = (d.toList.set i d[j]!).set j d[i]! := by simp [swp]
theorem swp_stb {d : Array C} {j : Nat} (hj : j + 1 < d.size) (hne : d[j + 1]!.2 ≠ d[j]!.2) : Stb d.toList (swp d (j + 1) j).toList := by
  rw [toList_swp]
  have hl : j + 1 < d.toList.length := by simpa using hj
  have e : d.toList = d.toList.take j ++ d[j]! :: d[j + 1]! :: d.toList.drop (j + 2) := by
    conv => lhs; rw [← List.take_append_drop j d.toList]
    congr 1
    rw [List.drop_eq_getElem_cons (by omega), List.drop_eq_getElem_cons (by omega)]
    simp [getElem!_pos, hj, show j < d.size by omega]
  have hlen : (d.toList.take j).length = j := by simp; omega
  generalize d[j]! = x at e hne ⊢
  generalize d[j + 1]! = y at e hne ⊢
  generalize d.toList.take j = p at e hlen
  generalize d.toList.drop (j + 2) = s at e
  rw [e]
  subst hlen
  intro c
  have e2 : ((p ++ x :: y :: s).set (p.length + 1) x).set p.length y = p ++ y :: x :: s := by simp
  rw [e2, List.filter_append, List.filter_append, List.filter_cons, List.filter_cons, List.filter_cons, List.filter_cons]
  by_cases h1 : x.2 = c
  · have h2 : y.2 ≠ c := fun h => hne (h.trans h1.symm)
    simp [h1, h2]
  · simp [h1]
theorem swp_size' (d : Array C) (i j : Nat) : (swp d i j).size = d.size := by simp [swp]
theorem insInner_stb (a : Nat) : ∀ (j : Nat) (d : Array C), j < d.size → Stb d.toList (insInner (ltOf cfC) a j d).toList ∧ (insInner (ltOf cfC) a j d).size = d.size
  | 0, d, _ => ⟨Stb.refl _, rfl⟩
  | j + 1, d, h => by
    rw [insInner]
    split
    · rename_i hc
      simp only [Bool.and_eq_true, ltC, decide_eq_true_eq] at hc
      have h1 := swp_stb h (by have := hc.2; omega)
      obtain ⟨h2, h3⟩ := insInner_stb a j (swp d (j + 1) j) (by rw [swp_size']; omega)
      exact ⟨h1.trans h2, by rw [h3, swp_size']⟩
    · exact ⟨Stb.refl _, rfl⟩
theorem insOuter_stb (a b : Nat) : ∀ (n i : Nat) (d : Array C), b - i ≤ n → b ≤ d.size → Stb d.toList (insOuter (ltOf cfC) a b i d).toList ∧ (insOuter (ltOf cfC) a b i d).size = d.size
  | 0, i, d, hn, hb => by
    rw [insOuter, if_neg (by omega)]
    exact ⟨Stb.refl _, rfl⟩
  | n + 1, i, d, hn, hb => by
    rw [insOuter]
    split
    · obtain ⟨h1, h2⟩ := insInner_stb a i d (by omega)
      obtain ⟨h3, h4⟩ := insOuter_stb a b n (i + 1) (insInner (ltOf cfC) a i d) (by omega) (by omega)
      exact ⟨h1.trans h3, h4.trans h2⟩
    · exact ⟨Stb.refl _, rfl⟩
theorem insertion_stb (d : Array C) (a b : Nat) (hb : b ≤ d.size) : Stb d.toList (insertionSort (ltOf cfC) d a b).toList ∧ (insertionSort (ltOf cfC) d a b).size = d.size := insOuter_stb a b _ (a + 1) d (Nat.le_refl _) hb
theorem srt_of {d : Array C} (h : SortedIn (ltOf cfC) 0 d.size d) : Srt d.toList := by
  unfold Srt
  rw [List.pairwise_iff_getElem]
  intro i j hi hj hij
  have := h i j (Nat.zero_le _) hij (by simpa using hj)
  rw [ltC] at this
  simp only [decide_eq_false_iff_not] at this
  have hi' : i < d.size := by simpa using hi
  have hj' : j < d.size := by simpa using hj
  rw [getElem!_pos d i hi', getElem!_pos d j hj'] at this
  simp only [Array.getElem_toList]
  omega
theorem insertion_isort (d : Array C) : insertionSort (ltOf cfC) d 0 d.size = (isort d.toList).toArray := by
  obtain ⟨h1, h2⟩ := insertion_stb d 0 d.size (Nat.le_refl _)
  have h3 := (insertionSort_holds (lt := ltOf cfC) swoC d 0 d.size (Nat.zero_le _) (Nat.le_refl _)).2
  rw [← isort_of (srt_of (by rw [h2]; exact h3)) h1]
end Go.Proofs.YtncnagagigalhaaGreatDoor
