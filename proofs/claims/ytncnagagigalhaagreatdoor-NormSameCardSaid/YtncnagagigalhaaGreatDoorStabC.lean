/-
  The library's stable sort at []classed: merging as mathematics; the test of two elements.
-/
import Derived.Test.YtncnagagigalhaaGreatDoorStabB
namespace Go.Proofs.YtncnagagigalhaaGreatDoor
open Go.RowKit Norm Go.Shelf Go.Sort Go.Lib

theorem srt_le {l : List C} (h : Srt l) {i j : Nat} (hij : i ≤ j) (hj : j < l.length) : l[i]!.2 ≤ l[j]!.2 := by
  rw [getElem!_pos l i (by omega), getElem!_pos l j hj]
  rcases Nat.lt_or_ge i j with hlt | hge
  · exact List.pairwise_iff_getElem.1 h i j (by omega) hj hlt
  · obtain rfl : i = j := by omega
    exact Int.le_refl _
theorem srt_take {l : List C} (h : Srt l) (k : Nat) : Srt (l.take k) := h.sublist (List.take_sublist k l)
theorem srt_drop {l : List C} (h : Srt l) (k : Nat) : Srt (l.drop k) := h.sublist (List.drop_sublist k l)
theorem mem_take! {l : List C} {k : Nat} {x : C} (h : x ∈ l.take k) : ∃ i, i < k ∧ i < l.length ∧ l[i]! = x := by
  obtain ⟨i, hi, rfl⟩ := List.getElem_of_mem h
  rw [List.length_take] at hi
  exact ⟨i, by omega, by omega, by rw [getElem!_pos l i (by omega), List.getElem_take]⟩
theorem mem_drop! {l : List C} {k : Nat} {x : C} (h : x ∈ l.drop k) : ∃ i, k ≤ i ∧ i < l.length ∧ l[i]! = x := by
  obtain ⟨i, hi, rfl⟩ := List.getElem_of_mem h
  rw [List.length_drop] at hi
  exact ⟨k + i, by omega, by omega, by rw [getElem!_pos l (k + i) (by omega), List.getElem_drop]⟩
theorem mem_isS (l : List C) (x : C) : x ∈ isort l ↔ x ∈ l := ⟨fun h => (isort_stb l).symm.mem h, fun h => (isort_stb l).mem h⟩
theorem merge_split {X1 X2 Y1 Y2 : List C} (hX : Srt (X1 ++ X2)) (hY : Srt (Y1 ++ Y2)) (h1 : ∀ x ∈ X2, ∀ y ∈ Y1, y.2 < x.2) (h2 : ∀ x ∈ X1, ∀ y ∈ Y2, x.2 ≤ y.2) : isort (X1 ++ X2 ++ (Y1 ++ Y2)) = isort (X1 ++ Y1) ++ isort (X2 ++ Y2) := by
  refine (isort_of ?_ ?_).symm
  · refine List.pairwise_append.2 ⟨isort_srt _, isort_srt _, fun a ha b hb => ?_⟩
    rw [mem_isS, List.mem_append] at ha hb
    rcases ha with ha | ha <;> rcases hb with hb | hb
    · exact (List.pairwise_append.1 hX).2.2 a ha b hb
    · exact h2 a ha b hb
    · exact Int.le_of_lt (h1 b hb a ha)
    · exact (List.pairwise_append.1 hY).2.2 a ha b hb
  · intro c
    rw [List.filter_append (isort _), ← isort_stb (X1 ++ Y1) c, ← isort_stb (X2 ++ Y2) c]
    simp only [List.filter_append]
    have e : X2.filter (fun x => x.2 == c) ++ Y1.filter (fun x => x.2 == c) = Y1.filter (fun x => x.2 == c) ++ X2.filter (fun x => x.2 == c) := by
      rcases Decidable.em (X2.filter (fun x => x.2 == c) = []) with h | h
      · rw [h]; simp
      · have : Y1.filter (fun x => x.2 == c) = [] := by
          rw [List.filter_eq_nil_iff]
          intro y hy hyc
          obtain ⟨x, hx⟩ := List.exists_mem_of_ne_nil _ h
          rw [List.mem_filter] at hx
          have := h1 x hx.1 y hy
          have e1 := hx.2
          simp only [beq_iff_eq] at e1 hyc
          omega
        rw [this]; simp
    rw [List.append_assoc, ← List.append_assoc (X2.filter _), e]
    simp only [List.append_assoc]
theorem merge_at {X Y : List C} {k e : Nat} (hX : Srt X) (hY : Srt Y) (h1 : k < X.length → 0 < e → e ≤ Y.length → Y[e - 1]!.2 < X[k]!.2) (h2 : 0 < k → k ≤ X.length → e < Y.length → X[k - 1]!.2 ≤ Y[e]!.2) (he : e ≤ Y.length) (hk : k ≤ X.length) :
    isort (X ++ Y) = isort (X.take k ++ Y.take e) ++ isort (X.drop k ++ Y.drop e) := by
  conv => lhs; rw [← List.take_append_drop k X, ← List.take_append_drop e Y]
  refine merge_split (by rw [List.take_append_drop]; exact hX) (by rw [List.take_append_drop]; exact hY) ?_ ?_
  · intro x hx y hy
    obtain ⟨i, i1, i2, rfl⟩ := mem_drop! hx
    obtain ⟨j, j1, j2, rfl⟩ := mem_take! hy
    have := h1 (by omega) (by omega) he
    have a1 := srt_le hX i1 i2
    have a2 := srt_le hY (i := j) (j := e - 1) (by omega) (by omega)
    omega
  · intro x hx y hy
    obtain ⟨i, i1, i2, rfl⟩ := mem_take! hx
    obtain ⟨j, j1, j2, rfl⟩ := mem_drop! hy
    have := h2 (by omega) hk (by omega)
    have a1 := srt_le hX (i := i) (j := k - 1) (by omega) (by omega)
    have a2 := srt_le hY j1 j2
    omega
theorem merge_one {x : C} {Y : List C} {e : Nat} (hY : Srt Y) (he : e ≤ Y.length) (h1 : 0 < e → Y[e - 1]!.2 < x.2) (h2 : e < Y.length → x.2 ≤ Y[e]!.2) : isort ([x] ++ Y) = Y.take e ++ [x] ++ Y.drop e := by
  rw [merge_at (k := 0) (e := e) (List.pairwise_singleton _ _) hY (fun _ h _ => h1 h) (fun h => absurd h (by omega)) he (by simp)]
  rw [List.take_zero, List.nil_append, List.drop_zero, isort_srt_self (srt_take hY e), List.append_assoc]
  congr 1
  refine isort_srt_self (List.pairwise_cons.2 ⟨fun y hy => ?_, srt_drop hY e⟩)
  obtain ⟨j, j1, j2, rfl⟩ := mem_drop! hy
  have := h2 (by omega)
  have a2 := srt_le hY j1 j2
  omega
theorem merge_last {y : C} {X : List C} {k : Nat} (hX : Srt X) (hk : k ≤ X.length) (h1 : k < X.length → y.2 < X[k]!.2) (h2 : 0 < k → X[k - 1]!.2 ≤ y.2) : isort (X ++ [y]) = X.take k ++ [y] ++ X.drop k := by
  rw [merge_at (k := k) (e := 1) hX (List.pairwise_singleton _ _) (fun h _ _ => h1 h) (fun _ _ h => absurd h (by simp)) (by simp) hk]
  rw [show List.take 1 [y] = [y] from rfl, show List.drop 1 [y] = [] from rfl, List.append_nil, isort_srt_self (srt_drop hX k)]
  congr 1
  refine isort_srt_self (List.pairwise_append.2 ⟨srt_take hX k, List.pairwise_singleton _ _, fun a ha b hb => ?_⟩)
  rw [List.mem_singleton] at hb
  subst hb
  obtain ⟨j, j1, j2, rfl⟩ := mem_take! ha
  have := h2 (by omega)
  have a2 := srt_le hX (i := j) (j := k - 1) (by omega) (by omega)
  omega

/-- the element at a place of the row -/
theorem at_X {P X Y S : List C} {i : Nat} (hi : i < X.length) : (P ++ X ++ Y ++ S).toArray[P.length + i]! = X[i]! := by
  rw [getElem!_pos _ _ (by simp; omega), getElem!_pos X i hi]
  simp only [List.getElem_toArray]
  rw [List.getElem_append_left (by simp; omega), List.getElem_append_left (by simp; omega), List.getElem_append_right (by omega)]
  congr 1
  omega
theorem at_Y {P X Y S : List C} {i : Nat} (hi : i < Y.length) : (P ++ X ++ Y ++ S).toArray[P.length + X.length + i]! = Y[i]! := by
  have := at_X (P := P ++ X) (X := Y) (Y := S) (S := []) hi
  rw [List.append_nil, List.length_append] at this
  exact this

/-! the test 'cmp(data[i], data[j]) < 0' -/
theorem cmp_call (x y : C) (W : World) (n : Nat) (os : Array Obj) : Calls Tryz.prog 58 #[.agg #[.int .i32 x.1, .int .u8 x.2], .agg #[.int .i32 y.1, .int .u8 y.2]] (grow (W.drewN n) os) fun e w'' => e = .returned (.int .i64 (cmpZ x.2 y.2)) ∧ ∃ p : GrownBy, w'' = grow (W.drewN p.n) p.os :=
  Calls.grown_of (closure_any x y (grow (W.drewN n) os))
section
variable {w0 W : World} {blk off : Nat} {l0 l : List C}
theorem SWL.cells_g (h : SWL w0 blk off l W) (R : RowC w0 blk off l0) (hs : l.length = l0.length) {i : Nat} (hi : i < l.length) {x : C} (hx : l.toArray[i]! = x) :
    (∀ n os, (grow (W.drewN n) os).cell? ⟨blk, off + i * 2, none⟩ = some (.int .i32 x.1)) ∧ ∀ n os, (grow (W.drewN n) os).cell? ⟨blk, off + i * 2 + 1, none⟩ = some (.int .u8 x.2) := by
  subst hx
  exact ⟨fun n os => ((h.grown n os).cells R hs hi).1, fun n os => ((h.grown n os).cells R hs hi).2.1⟩
end
theorem cmpZ_lt {x y : Int} : cmpZ x y < 0 ↔ x < y := by
  unfold cmpZ
  by_cases h : x < y
  · simp [h]
  · rw [if_neg h]
    split <;> omega
end Go.Proofs.YtncnagagigalhaaGreatDoor
