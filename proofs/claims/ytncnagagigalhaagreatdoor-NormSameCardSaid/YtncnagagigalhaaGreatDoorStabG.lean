/-
  The library's stable sort at []classed: symMerge; the insertion sort of a part; blocks.
-/
import Derived.Test.YtncnagagigalhaaGreatDoorStabF
namespace Go.Proofs.YtncnagagigalhaaGreatDoor
open Go.RowKit Norm Go.Shelf Go.Sort Go.Lib

theorem sm_any (w0 : World) (blk off cap N : Nat) (l0 : List C) (R : RowC w0 blk off l0) (hN : N = l0.length) (h6 : N ≤ 1000000) : ∀ k, SmOk w0 blk off cap N k
  | 0 => fun P X Y S a m b h => absurd h (Nat.not_lt_zero _)
  | k + 1 => by
    have ih := sm_any w0 blk off cap N l0 R hN h6 k
    intro P X Y S a m b hk ha hm hb hX0 hY0 hX hY hl W hS
    by_cases h1 : X.length = 1
    · obtain ⟨x, rfl⟩ := List.length_eq_one_iff.1 h1
      exact sm_one w0 blk off cap N l0 R P x Y S a m b ha (by simpa using hm) (by simpa using hb) hY hN hl h6 W hS
    · by_cases h2 : Y.length = 1
      · obtain ⟨y, rfl⟩ := List.length_eq_one_iff.1 h2
        exact sm_last w0 blk off cap N l0 R P X y S a m b X.length ha rfl (by omega) hm (by simpa using hb) hX hN hl h6 W hS
      · exact sm_rec w0 blk off cap N l0 R P X Y S a m b X.length Y.length ha rfl rfl (by omega) (by omega) (by omega) (by omega) hX hY hN hl h6 (fun P X' Y' S a m b hk' => ih P X' Y' S a m b (by omega)) W hS

theorem cut3 {P X S M : List C} (h : Stb (P ++ X ++ S) (P ++ M ++ S)) : Stb X M := fun c => by
  have := h c
  simp only [List.filter_append] at this
  exact List.append_cancel_left (List.append_cancel_right this)
theorem at_X1 {P X S : List C} {i : Nat} (hi : i < X.length) : (P ++ X ++ S).toArray[P.length + i]! = X[i]! := by
  have := at_X (P := P) (X := X) (Y := S) (S := []) hi
  rw [List.append_nil] at this
  exact this
theorem ins_part (P X S : List C) : insertionSort (ltOf cfC) (P ++ X ++ S).toArray P.length (P.length + X.length) = (P ++ isort X ++ S).toArray := by
  have hb : P.length + X.length ≤ (P ++ X ++ S).toArray.size := by simp
  have h1 := insertionSort_holds (lt := ltOf cfC) swoC (P ++ X ++ S).toArray P.length (P.length + X.length) (by omega) hb
  have h2 := insertion_stb (P ++ X ++ S).toArray P.length (P.length + X.length) hb
  obtain ⟨d, hd⟩ : ∃ d, insertionSort (ltOf cfC) (P ++ X ++ S).toArray P.length (P.length + X.length) = d := ⟨_, rfl⟩
  rw [hd] at h1 h2 ⊢
  obtain ⟨⟨hsz, hout, _⟩, hsrt⟩ := h1
  have hlen : d.toList.length = P.length + X.length + S.length := by have := h2.2; simp at this ⊢; omega
  have hget : ∀ i, i < d.toList.length → (i < P.length ∨ P.length + X.length ≤ i) → d.toList[i]? = (P ++ X ++ S)[i]? := by
    intro i hi hor
    have hi2 : i < d.size := by simpa using hi
    have := hout i hor
    rw [getElem!_pos d i hi2, getElem!_pos _ i (by simp at hlen ⊢; omega)] at this
    rw [List.getElem?_eq_getElem hi, List.getElem?_eq_getElem (by simp at hlen ⊢; omega)]
    simpa using this
  have eP : d.toList.take P.length = P := by
    apply List.ext_getElem?
    intro i
    by_cases hi : i < P.length
    · rw [List.getElem?_take_of_lt hi, hget i (by omega) (.inl hi), List.append_assoc, List.getElem?_append_left hi]
    · rw [List.getElem?_take_eq_none (by omega), List.getElem?_eq_none (by omega)]
  have eS : d.toList.drop (P.length + X.length) = S := by
    apply List.ext_getElem?
    intro i
    rw [List.getElem?_drop]
    by_cases hi : i < S.length
    · rw [hget _ (by omega) (.inr (by omega)), List.getElem?_append_right (by simp)]
      simp
    · rw [List.getElem?_eq_none (by omega), List.getElem?_eq_none (by omega)]
  have eM : d.toList = P ++ (d.toList.drop P.length).take X.length ++ S := by
    conv => lhs; rw [← List.take_append_drop P.length d.toList, eP, ← List.take_append_drop X.length (d.toList.drop P.length), List.drop_drop, eS]
    simp
  obtain ⟨M, hM⟩ : ∃ M, (d.toList.drop P.length).take X.length = M := ⟨_, rfl⟩
  rw [hM] at eM
  have hstb : Stb X M := cut3 (P := P) (S := S) (by rw [← eM]; simpa using h2.1)
  have hml : M.length = X.length := by rw [← hM]; simp at hlen ⊢; omega
  have hsM : Srt M := by
    unfold Srt
    rw [List.pairwise_iff_getElem]
    intro i j hi hj hij
    have := hsrt (P.length + i) (P.length + j) (by omega) (by omega) (by omega)
    have ed : d = (P ++ M ++ S).toArray := by rw [← eM]
    rw [ed] at this
    rw [at_X1 hi, at_X1 hj, ltC, getElem!_pos M i hi, getElem!_pos M j hj] at this
    simp only [decide_eq_false_iff_not] at this
    omega
  have e : M = isort X := isort_of hsM hstb
  rw [← e]
  apply Array.ext'
  simpa using eM
theorem ins_list (w0 : World) (blk off cap N : Nat) (l0 : List C) (R : RowC w0 blk off l0) (P X S : List C) (a b : Nat) (ha : a = P.length) (hb : b = P.length + X.length) (hN : N = l0.length) (hl : (P ++ X ++ S).length = N) (h6 : N ≤ 1000000) (W : World) (hS : SWL w0 blk off (P ++ X ++ S) W) :
    Calls Tryz.prog 86 #[.slice (some ⟨blk, off, none⟩) N cap, .int .i64 a, .int .i64 b, .func (.func 58) #[] #[]] W (SwOk w0 blk off (P ++ isort X ++ S)) := by
  have hH : HoldsK encC 2 W blk off (P ++ X ++ S).toArray := SWK.holds hS R.hblk R.hH (by rw [List.size_toArray, List.size_toArray]; omega)
  have hlt : blk < W.heap.size := SWK.lt hS R.hblk
  have h := ins_any blk off cap a b (P ++ X ++ S).toArray W hH hlt (by omega) (by rw [List.size_toArray]; simp only [List.length_append] at hl ⊢; omega) (by rw [List.size_toArray]; omega)
  rw [List.size_toArray, hl] at h
  refine h.mono ?_
  rintro e w' ⟨rfl, n, os, rfl⟩
  refine ⟨rfl, ?_⟩
  subst ha
  subst hb
  rw [ins_part]
  exact SWK.on hS R.hblk n _ os (by simp [isort_len])

/-! blocks -/
def Chk (bs : Nat) (cs : List (List C)) : Prop := ∀ c ∈ cs, c.length = bs ∧ Srt c
theorem chk_len {bs : Nat} : ∀ {cs : List (List C)}, Chk bs cs → cs.flatten.length = cs.length * bs
  | [], _ => by simp
  | c :: cs, h => by
    rw [List.flatten_cons, List.length_append, chk_len (fun x hx => h x (by simp [hx])), (h c (by simp)).1, List.length_cons, Nat.add_mul]; omega
theorem chk_snoc {bs : Nat} {cs : List (List C)} {c : List C} (h : Chk bs cs) (hc : c.length = bs) (hs : Srt c) : Chk bs (cs ++ [c]) := by
  intro x hx
  rcases List.mem_append.1 hx with hx | hx
  · exact h x hx
  · rw [List.mem_singleton] at hx; subst hx; exact ⟨hc, hs⟩
theorem flat_snoc (cs : List (List C)) (c : List C) : (cs ++ [c]).flatten = cs.flatten ++ c := by simp
/-- all blocks of bs elements are in order, and what is left behind them -/
def WBlk (bs : Nat) (L : List C) : Prop := ∃ cs t, L = cs.flatten ++ t ∧ Chk bs cs ∧ t.length < bs ∧ Srt t
theorem wblk_end {bs : Nat} {L : List C} (h : WBlk bs L) (hb : L.length ≤ bs) : Srt L := by
  obtain ⟨cs, t, rfl, hc, ht, hs⟩ := h
  rw [List.length_append, chk_len hc] at hb
  rcases cs with _ | ⟨c, _ | ⟨c2, cs⟩⟩
  · simpa using hs
  · simp only [List.length_cons, List.length_nil] at hb
    have : t = [] := List.eq_nil_of_length_eq_zero (by omega)
    subst this
    simpa using (hc c (by simp)).2
  · exfalso
    simp only [List.length_cons] at hb
    have : (cs.length + 1 + 1) * bs = cs.length * bs + 2 * bs := by rw [Nat.add_mul, Nat.add_mul]; omega
    omega
theorem stb_mid {P X Y S : List C} : Stb (P ++ X ++ Y ++ S) (P ++ isort (X ++ Y) ++ S) := by
  rw [List.append_assoc P X Y]
  exact ((Stb.refl P).append (isort_stb (X ++ Y))).append (Stb.refl S)
theorem stb_mid1 {P X S : List C} : Stb (P ++ X ++ S) (P ++ isort X ++ S) := ((Stb.refl P).append (isort_stb X)).append (Stb.refl S)
end Go.Proofs.YtncnagagigalhaaGreatDoor
