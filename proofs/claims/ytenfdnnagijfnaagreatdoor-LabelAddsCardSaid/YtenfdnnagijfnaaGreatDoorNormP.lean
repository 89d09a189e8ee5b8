/-
  norm: arrange.
-/
import Derived.Test.YtenfdnnagijfnaaGreatDoorNormO
import Derived.Test.YtenfdnnagijfnaaGreatDoorAppendRow
namespace Go.Proofs.YtenfdnnagijfnaaGreatDoor
open Go.RowKit Norm Go.Shelf Go.Sort Go.Lib

/-- no more than N marks beside one another -/
def Runs (N : Nat) (l : List C) : Prop := ∀ P M S, l = P ++ M ++ S → (∀ x ∈ M, isSt x = false) → M.length ≤ N
theorem runs_short {N : Nat} {l : List C} (h : l.length ≤ N) : Runs N l := by
  rintro P M S rfl _
  simp at h
  omega
theorem Runs.tail {N : Nat} {P l : List C} (h : Runs N (P ++ l)) : Runs N l := by
  rintro P' M S rfl hM
  exact h (P ++ P') M S (by simp) hM
theorem runs_starters {N : Nat} {l : List C} (h : ∀ x ∈ l, isSt x = true) : Runs N l := by
  rintro P M S rfl hM
  cases M with
  | nil => simp
  | cons x t =>
    have h1 := h x (by simp)
    have h2 := hM x (by simp)
    rw [h1] at h2
    cases h2
theorem isSt_false {x : C} : isSt x = false ↔ x.2 ≠ 0 := by simp [isSt]
theorem isSt_true {x : C} : isSt x = true ↔ x.2 = 0 := by simp [isSt]
theorem arr_acc : ∀ (k : Nat) (l acc : List C), k ≤ l.length → (∀ x ∈ l.take k, isSt x = false) → arr acc l = arr (acc ++ l.take k) (l.drop k)
  | 0, l, acc, _, _ => by simp
  | k + 1, [], acc, h, _ => by simp at h
  | k + 1, c :: t, acc, h, hs => by
    have hc : c.2 ≠ 0 := isSt_false.1 (hs c (by simp))
    have := arr_acc k t (acc ++ [c]) (by simpa using h) (fun x hx => hs x (by simp [hx]))
    rw [arr, if_neg hc, this]
    simp
theorem arr_none {l : List C} (h : ∀ x ∈ l, isSt x = false) : arr [] l = isort l := by
  rw [arr_acc l.length l [] (Nat.le_refl _) (by simpa using h)]
  simp [arr]
theorem arr_hit {T S : List C} {c : C} (h : ∀ x ∈ T, isSt x = false) (hc : isSt c = true) : arr [] (T ++ c :: S) = isort T ++ c :: arr [] S := by
  rw [arr_acc T.length (T ++ c :: S) [] (by simp) (by simpa using h)]
  simp [arr, isSt_true.1 hc]
theorem cut_st (l : List C) : (∀ x ∈ l, isSt x = false) ∨ ∃ T c S, l = T ++ c :: S ∧ (∀ x ∈ T, isSt x = false) ∧ isSt c = true := by
  induction l with
  | nil => exact .inl (by simp)
  | cons x t ih =>
    cases hx : isSt x with
    | true => exact .inr ⟨[], x, t, rfl, by simp, hx⟩
    | false =>
      rcases ih with h | ⟨T, c, S, rfl, h, hc⟩
      · exact .inl (by intro y hy; rcases List.mem_cons.1 hy with rfl | hy; exact hx; exact h y hy)
      · exact .inr ⟨x :: T, c, S, rfl, by intro y hy; rcases List.mem_cons.1 hy with rfl | hy; exact hx; exact h y hy, hc⟩
theorem idx_hit {T S : List C} {c : C} (h : ∀ x ∈ T, isSt x = false) (hc : isSt c = true) : Lib.idxBy (fun _ y => isSt y) ((T ++ c :: S).take (T ++ c :: S).length) default = (T.length : Nat) := by
  refine Lib.idxBy_hit (fun _ y => isSt y) _ _ T.length default (by simp) (Nat.le_refl _) ?_ ?_
  · show isSt _ = true
    rw [getElem!_pos _ T.length (by simp)]
    simpa using hc
  · intro j hj
    show isSt _ = false
    rw [getElem!_pos _ j (by simp; omega), List.getElem_append_left hj]
    exact h _ (List.getElem_mem hj)
theorem idx_miss {l : List C} (h : ∀ x ∈ l, isSt x = false) : Lib.idxBy (fun _ y => isSt y) (l.take l.length) default = -1 := by
  refine Lib.idxBy_miss (fun _ y => isSt y) _ _ default ?_
  intro j hj
  show isSt _ = false
  rw [getElem!_pos _ j hj]
  exact h _ (List.getElem_mem hj)

theorem own_cells {w : World} {base g cap n : Nat} {e : TypeId} {P R : List C} (h : w.ownsRow base e 2 (.slice (some ⟨g, 0, none⟩) n cap) n (c2 (P ++ R))) (off : Nat) (ho : off = 2 * P.length) :
    ∀ j, j < R.length → ∀ i v, (encC R[j]!)[i]? = some v → w.cell? ⟨g, off + j * 2 + i, none⟩ = some v := by
  subst ho
  have hH := (own_holds (P := P) (M := R) (S := []) (by rw [List.append_nil]; exact h)).1
  intro j hj i v hi
  have hi2 : i < 2 := by
    rcases Nat.lt_or_ge i 2 with h | h
    · exact h
    · rw [List.getElem?_eq_none (by rw [encC_len]; exact h)] at hi; cases hi
  have h1 := (hH (j * 2 + i) (by rw [flatK_sz]; omega)).1
  rw [Nat.add_assoc, h1, get_flatK encC 2 R.toArray _ (by simp; omega)]
  rw [show (j * 2 + i) / 2 = j from by omega, show (j * 2 + i) % 2 = i from by omega]
  rw [getElem!_pos _ i (by rw [encC_len]; exact hi2)]
  rw [List.getElem?_eq_getElem (by rw [encC_len]; exact hi2)] at hi
  have e : R.toArray[j]! = R[j]! := by simp
  simp only [e]
  exact hi
theorem gb_below {w w1 w2 : World} {r : Option Nat} (h : w.grownBy w1 r) (hB : Below w1.heap.size w1 w2) : w.grownBy w2 r :=
  World.grownBy.trans h (World.grownBy.but ⟨hB.os, hB.tape, hB.output, hB.size, fun j hj _ => hB.block j hj⟩ _)

theorem slice_eq {a a' : Option Addr} {n n' c c' : Nat} (h1 : a = a') (h2 : n = n') (h3 : c = c') : Value.slice a n c = Value.slice a' n' c' := by rw [h1, h2, h3]
def SortedRow (base g cap n : Nat) (l : List C) (w : World) (e : Ending) (w' : World) : Prop := e = .returned (.tuple #[]) ∧ w'.ownsRow base 60 2 (.slice (some ⟨g, 0, none⟩) n cap) n (c2 l) ∧ w.grownBy w' (some g)
theorem stable_list {N : Nat} (hN : StableOk N) {base g cap n : Nat} {P M S : List C} {w : World} (h : w.ownsRow base 60 2 (.slice (some ⟨g, 0, none⟩) n cap) n (c2 (P ++ M ++ S))) (hm : M.length ≤ N) (o c : Nat) (ho : o = 2 * P.length) :
    Calls Tryz.prog 90 #[.slice (some ⟨g, o, none⟩) M.length c, .func (.func 91) #[] #[]] w (SortedRow base g cap n (P ++ isort M ++ S) w) := by
  subst ho
  have hH := own_holds h
  have hC := hN g (2 * P.length) c M.toArray w hH.1 hH.2.1 (by simpa using hm)
  rw [List.size_toArray] at hC
  refine hC.mono ?_
  rintro e w' ⟨rfl, q, os, rfl⟩
  have := own_put h (M' := isort M) (isort_len M) q os
  exact ⟨rfl, this.1, this.2⟩

set_option maxRecDepth 100000 in
set_option maxHeartbeats 2000000 in
theorem arrange_any (N : Nat) (hN : StableOk N) (base g cap n : Nat) (l : List C) (w : World) (hl : n = l.length) (hn : n ≤ 1000000) (hR : Runs N l) (hw : w.ownsRow base 60 2 (.slice (some ⟨g, 0, none⟩) n cap) n (c2 l)) :
    Calls Tryz.prog 59 #[.slice (some ⟨g, 0, none⟩) n cap] w (SortedRow base g cap n (arr [] l) w) := by
  have hcap : n ≤ cap := by
    rcases hw.2 with ⟨h0, _⟩ | ⟨g', cap', cur, hv, hbase, hb, h1, h2, h3, ht⟩
    · cases h0
    cases hv
    exact h1
  go_enter Tryz.func59, Tryz.ntmps59
  go_wp2
  go_loopg [0] n (fun k s0 wr => ∃ (P R : List C) (a : Option Addr) (c : Nat), s0 = .slice a R.length c ∧ k = R.length ∧ n = P.length + R.length ∧ R.length ≤ c ∧ Hid (0 < R.length → a = some ⟨g, 2 * P.length, none⟩) ∧ Hid (Runs N R) ∧ wr.ownsRow base 60 2 (.slice (some ⟨g, 0, none⟩) n cap) n (c2 (P ++ R)) ∧ w.grownBy wr (some g) ∧ Hid (P ++ arr [] R = arr [] l))
  case atStart => exact ⟨[], l, some ⟨g, 0, none⟩, cap, by rw [hl], hl, by simpa using hl, by omega, Lib.hid (fun _ => rfl), Lib.hid hR, hw, World.grownBy.refl _ _, Lib.hid rfl⟩
  case round =>
    obtain ⟨P, R, a, c, rfl, rfl, hPR, hRc, HA, HRR, hO, hG, HE⟩ := hrel
    by_cases h0 : 0 < R.length
    · obtain rfl := HA.out h0
      have h0z : (0 : Int) < (R.length : Int) := by omega
      have HI := Lib.hid (idx_any g (2 * P.length) R.length c R wr rfl (by omega) (own_holds (P := P) (M := R) (S := []) (by simpa using hO)).2.1 (own_cells hO _ rfl))
      rcases cut_st R with hs | ⟨T, x, S, rfl, hT, hx⟩
      · rw [idx_miss hs] at HI
        have HAR : Hid (P ++ isort R = arr [] l) := Lib.hid (by rw [← HE.out, arr_none hs])
        have HM : Hid (R.length ≤ N) := Lib.hid (HRR.out [] R [] (by simp) hs)
        have HL := Lib.hid (fun (w4 : World) (h : w4.ownsRow base 60 2 (.slice (some ⟨g, 0, none⟩) n cap) n (c2 (P ++ R ++ []))) => stable_list hN h HM.out (2 * P.length) c rfl)
        have hO' : wr.ownsRow base 60 2 (.slice (some ⟨g, 0, none⟩) n cap) n (c2 (P ++ R ++ [])) := by rw [List.append_nil]; exact hO
        clear hO HE HRR HA hs
        go_wp2_with (first | (go_at_call 89; refine HI.out.mono ?_; rintro e w4 ⟨rfl, hb4⟩) | (go_at_call 90; refine (HL.out _ (own_below hO' hb4)).mono ?_; rintro e w5 ⟨rfl, hO5, hG5⟩) | fail)
        all_goals
          go_roundg 0
          case measure => omega
          case rel => exact ⟨P ++ isort R, [], _, _, slice_eq rfl (by simp; omega) rfl, rfl, by rw [List.length_append, isort_len]; simpa using hPR, Nat.zero_le _, Lib.hid (fun h => absurd h (by simp)), Lib.hid (runs_short (Nat.zero_le _)), hO5, World.grownBy.trans (gb_below hG hb4) hG5, Lib.hid (by rw [← HAR.out]; simp [arr, isort])⟩
      · rw [idx_hit hT hx] at HI
        have hRl : (T ++ x :: S).length = T.length + S.length + 1 := by simp; omega
        have HAR : Hid (P ++ isort T ++ [x] ++ arr [] S = arr [] l) := Lib.hid (by rw [← HE.out, arr_hit hT hx]; simp)
        have HM : Hid (T.length ≤ N) := Lib.hid (HRR.out [] T (x :: S) (by simp) hT)
        have HRS : Hid (Runs N S) := Lib.hid (Runs.tail (P := T ++ [x]) (by simpa using HRR.out))
        have HL := Lib.hid (fun (w4 : World) (h : w4.ownsRow base 60 2 (.slice (some ⟨g, 0, none⟩) n cap) n (c2 (P ++ T ++ x :: S))) => stable_list hN h HM.out (2 * P.length) c rfl)
        have hO' : wr.ownsRow base 60 2 (.slice (some ⟨g, 0, none⟩) n cap) n (c2 (P ++ T ++ x :: S)) := by rw [List.append_assoc]; exact hO
        rw [hRl] at HI h0z h0 hPR hRc ⊢
        clear hO HE HRR HA hT hx
        go_wp2_with (first | (go_at_call 89; refine HI.out.mono ?_; rintro e w4 ⟨rfl, hb4⟩) | (go_at_call 90; refine (HL.out _ (own_below hO' hb4)).mono ?_; rintro e w5 ⟨rfl, hO5, hG5⟩) | fail)
        all_goals
          go_roundg S.length
          case measure => omega
          case rel => exact ⟨P ++ isort T ++ [x], S, _, _, slice_eq rfl (by omega) rfl, rfl, by rw [List.length_append, List.length_append, isort_len]; simp; omega, by omega, Lib.hid (fun h => by first | (exfalso; omega) | (congr 2; rw [List.length_append, List.length_append, isort_len]; simp; omega)), HRS, by simpa using hO5, World.grownBy.trans (gb_below hG hb4) hG5, HAR⟩
    · obtain rfl : R = [] := List.eq_nil_of_length_eq_zero (by omega)
      go_wp2_with fail
      go_end0
      refine ⟨rfl, ?_, hG⟩
      rw [← HE.out]
      simpa [arr, isort] using hO
end Go.Proofs.YtenfdnnagijfnaaGreatDoor
