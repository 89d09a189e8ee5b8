/-
  norm, as mathematics: a row that is put together, without its last mark; and with a dot put in.
-/
import Derived.Test.YtenfdnnagijfnaaGreatDoorLabelI
namespace Go.Proofs.YtenfdnnagijfnaaGreatDoor
open Go.RowKit Norm

theorem ins_at (x : C) : ∀ l : List C, Srt l → ∃ P Q, l = P ++ Q ∧ insC x l = P ++ x :: Q ∧ ∀ q ∈ Q, x.2 < q.2
  | [], _ => ⟨[], [], rfl, rfl, by simp⟩
  | y :: t, h => by
    have hp := List.pairwise_cons.1 h
    by_cases hlt : x.2 < y.2
    · refine ⟨[], y :: t, rfl, by unfold insC; rw [if_pos hlt]; rfl, fun q hq => ?_⟩
      rcases List.mem_cons.1 hq with e | hq
      · rw [e]; exact hlt
      · have := hp.1 q hq
        omega
    · obtain ⟨P, Q, h1, h2, h3⟩ := ins_at x t hp.2
      exact ⟨y :: P, Q, by rw [h1]; rfl, by unfold insC; rw [if_neg hlt, h2]; rfl, h3⟩
theorem arr_mark {m : C} (hm : m.2 ≠ 0) : ∀ (D acc : List C), ∃ P Q, arr acc D = P ++ Q ∧ arr acc (D ++ [m]) = P ++ m :: Q ∧ ∀ q ∈ Q, m.2 < q.2
  | [], acc => by
    obtain ⟨P, Q, h1, h2, h3⟩ := ins_at m (isort acc) (isort_srt acc)
    refine ⟨P, Q, by rw [arr_nil]; exact h1, ?_, h3⟩
    rw [List.nil_append, arr_cons, if_neg hm, arr_nil]
    show (acc ++ [m]).foldl _ [] = _
    rw [List.foldl_append]
    exact h2
  | c :: t, acc => by
    rw [List.cons_append, arr_cons, arr_cons]
    by_cases hc : c.2 = 0
    · rw [if_pos hc, if_pos hc]
      obtain ⟨P, Q, h1, h2, h3⟩ := arr_mark hm t []
      exact ⟨isort acc ++ c :: P, Q, by rw [h1]; simp, by rw [h2]; simp, h3⟩
    · rw [if_neg hc, if_neg hc]
      exact arr_mark hm t (acc ++ [c])
/-- where a mark of a greater class than b is the last one, it stays so -/
def Wb (b : Int) (u : St) : Prop := (∃ z, u.out.getLast? = some z ∧ b < ccc z) ∧ u.st + 1 < (u.out.length : Int)
theorem wb_push {b : Int} {u : St} {q : C} (h0 : 0 ≤ b) (hq : b < q.2 ∧ q.2 = ccc q.1) (hst : u.st < (u.out.length : Int)) : Wb b (u.push q) := by
  have hne : q.2 ≠ 0 := by omega
  refine ⟨⟨q.1, by unfold St.push; simp, by rw [← hq.2]; exact hq.1⟩, ?_⟩
  unfold St.push
  simp [hne]
  omega
theorem wb_step {b : Int} {u : St} {q : C} (h0 : 0 ≤ b) (hq : b < q.2 ∧ q.2 = ccc q.1) (h : Wb b u) : Wb b (u.step q) := by
  by_cases hm : u.may q
  · cases hj : jn (u.out.getD u.st.toNat 0) q.1 with
    | none => rw [step_none hj]; exact wb_push h0 hq (by have := h.2; omega)
    | some r =>
      rw [step_some hm hj]
      obtain ⟨⟨z, hz, hb⟩, hs⟩ := h
      have h1 := hm.1
      refine ⟨⟨z, ?_, hb⟩, by dsimp only; rw [List.length_set]; exact hs⟩
      dsimp only
      rw [List.getLast?_eq_getElem?] at hz ⊢
      rw [List.length_set, List.getElem?_set_ne (by omega)]
      exact hz
  · rw [step_no hm]; exact wb_push h0 hq (by have := h.2; omega)
theorem wb_run {b : Int} (h0 : 0 ≤ b) : ∀ (Q : List C) (u : St), (∀ q ∈ Q, b < q.2 ∧ q.2 = ccc q.1) → Wb b u → Wb b (run Q u)
  | [], _, _, h => h
  | q :: Q, u, hq, h => wb_run h0 Q (u.step q) (fun x hx => hq x (by simp [hx])) (wb_step h0 (hq q (by simp)) h)
/-- u is v with the mark m behind it; v is s but for its starter -/
def Rm (m : Int) (s u v : St) : Prop := u.out = v.out ++ [m] ∧ u.st = v.st ∧ 0 ≤ v.st ∧ v.st < (v.out.length : Int) ∧ v.last ≤ ccc m ∧ u.last = ccc m ∧
  v.st = s.st ∧ v.out.length = s.out.length ∧ (∀ j : Nat, (j : Int) ≠ s.st → v.out[j]? = s.out[j]?) ∧ ∀ x, v.out[s.st.toNat]? = some x → ccc x = 0
theorem rm_step {m : Int} {s u v : St} {q : C} (hq : ccc m < q.2 ∧ q.2 = ccc q.1) (h : Rm m s u v) : (Rm m s (u.step q) (v.step q)) ∨ Wb (ccc m) (u.step q) := by
  obtain ⟨h1, h2, h3, h4, h5, h6, h7, h8, h9, h10⟩ := h
  have hu : u.may q := ⟨by omega, .inr (by omega)⟩
  have hv : v.may q := ⟨by omega, .inr (by omega)⟩
  have hg : u.out.getD u.st.toNat 0 = v.out.getD v.st.toNat 0 := by
    rw [h1, h2, List.getD_eq_getElem?_getD, List.getD_eq_getElem?_getD, List.getElem?_append_left (by omega)]
  cases hj : jn (v.out.getD v.st.toNat 0) q.1 with
  | some r =>
    rw [step_some hu (by rw [hg]; exact hj), step_some hv hj]
    left
    refine ⟨?_, h2, h3, by dsimp only; rw [List.length_set]; exact h4, h5, h6, h7, by dsimp only; rw [List.length_set]; exact h8, fun j hj2 => ?_, fun x hx => ?_⟩
    · dsimp only
      rw [h1, h2, List.set_append_left _ _ (by omega)]
    · dsimp only
      rw [List.getElem?_set_ne (by omega)]
      exact h9 j hj2
    · dsimp only at hx
      rw [← h7, List.getElem?_set_self (by omega)] at hx
      injection hx with hx
      rw [← hx]
      exact jn_class hj
  | none =>
    right
    rw [step_none (by rw [hg]; exact hj)]
    exact wb_push (ccc_pos m) hq (by rw [h1, h2, List.length_append]; simp; omega)
theorem rm_run {m : Int} {s : St} : ∀ (Q : List C) (u v : St), (∀ q ∈ Q, ccc m < q.2 ∧ q.2 = ccc q.1) → Rm m s u v → Rm m s (run Q u) (run Q v) ∨ Wb (ccc m) (run Q u)
  | [], _, _, _, h => .inl h
  | q :: Q, u, v, hq, h => by
    have hq' : ∀ x ∈ Q, ccc m < x.2 ∧ x.2 = ccc x.1 := fun x hx => hq x (by simp [hx])
    rcases rm_step (hq q (by simp)) h with h' | h'
    · exact rm_run Q _ _ hq' h'
    · exact .inr (wb_run (ccc_pos m) Q _ hq' h')
/-- the last one isn't m -/
def Vm (m : Int) (u : St) : Prop := 0 ≤ u.st ∧ u.st < (u.out.length : Int) ∧ ∀ j : Nat, u.st ≤ (j : Int) → j < u.out.length → u.out[j]? ≠ some m
theorem vm_step {m : Int} {u : St} {q : C} (hm0 : ccc m ≠ 0) (hq : ccc m < q.2 ∧ q.2 = ccc q.1) (h : Vm m u) : Vm m (u.step q) := by
  obtain ⟨h1, h2, h3⟩ := h
  have hp : Vm m (u.push q) := by
    have hne : q.2 ≠ 0 := by have := ccc_pos m; omega
    unfold St.push
    refine ⟨by simp [hne]; exact h1, by simp [hne]; omega, fun j hj hjl => ?_⟩
    dsimp only at hj hjl ⊢
    rw [if_neg hne] at hj
    rw [List.length_append, List.length_singleton] at hjl
    by_cases hjo : j < u.out.length
    · rw [List.getElem?_append_left hjo]
      exact h3 j hj hjo
    · obtain rfl : j = u.out.length := by omega
      rw [List.getElem?_append_right (Nat.le_refl _), Nat.sub_self]
      intro e
      injection e with e
      rw [e] at hq
      omega
  by_cases hm : u.may q
  · cases hj : jn (u.out.getD u.st.toNat 0) q.1 with
    | none => rw [step_none hj]; exact hp
    | some r =>
      rw [step_some hm hj]
      refine ⟨h1, by dsimp only; rw [List.length_set]; exact h2, fun j hj2 hjl => ?_⟩
      dsimp only at hj2 hjl ⊢
      rw [List.length_set] at hjl
      rw [List.getElem?_set]
      split
      · rename_i e
        split
        · intro e2
          injection e2 with e2
          have := jn_class hj
          rw [e2] at this
          exact hm0 this
        · simp
      · exact h3 j hj2 hjl
  · rw [step_no hm]; exact hp
theorem vm_run {m : Int} (hm0 : ccc m ≠ 0) : ∀ (Q : List C) (u : St), (∀ q ∈ Q, ccc m < q.2 ∧ q.2 = ccc q.1) → Vm m u → Vm m (run Q u)
  | [], _, _, h => h
  | q :: Q, u, hq, h => vm_run hm0 Q (u.step q) (fun x hx => hq x (by simp [hx])) (vm_step hm0 (hq q (by simp)) h)
theorem fix_mark {m : Int} (h : ccc m ≠ 0) : dec [m] = [classed m] := by
  rw [dec_eq, List.flatMap_cons, List.flatMap_nil, List.append_nil]
  unfold dec1
  rw [full_mark h]
  rfl
/-- a row that is put together is so without its last mark; and that one's class is no smaller than that of a mark ahead of it -/
theorem nfc_drop {X : List Int} {m : Int} (hC : C32 (X ++ [m])) (hm : ccc m ≠ 0) (hX0 : ∃ x t, X = x :: t ∧ ccc x = 0) (h : nfc (X ++ [m]) = X ++ [m]) : nfc X = X ∧ ∀ z, X.getLast? = some z → ccc z ≤ ccc m := by
  have hd : dec (X ++ [m]) = dec X ++ [classed m] := by rw [dec_append, fix_mark hm]
  obtain ⟨P, Q, e1, e2, hQ⟩ := arr_mark (m := classed m) hm (dec X) []
  have hF := arr_fix hC
  have hO := nfd_ordl hC
  rw [hd, e2] at hF hO
  have hQ' : ∀ q ∈ Q, ccc m < q.2 ∧ q.2 = ccc q.1 := fun q hq => ⟨hQ q hq, (hF q (by simp [hq])).2⟩
  have en : nfc X = (run Q (run P s0)).out := by unfold nfc; rw [e1, comp_run, run_append]
  have em : X ++ [m] = (run Q ((run P s0).step (classed m))).out := by rw [← h]; unfold nfc; rw [hd, e2, comp_run, run_append, run_cons]
  have hK := K_at hF hO P.length (by simp)
  have hst : stAt (P ++ classed m :: Q) P.length = run P s0 := by unfold stAt run s0; rw [List.take_left]
  rw [hst] at hK
  have hLm : (P ++ classed m :: Q)[P.length]! = classed m := by simp
  have hrise : 0 < P.length → (P ++ classed m :: Q)[P.length - 1]!.2 ≤ ccc m := fun h0 => by
    have := ordl_at (P.length - 1) hO (by simp; omega) (by rw [show P.length - 1 + 1 = P.length from by omega, hLm]; exact hm)
    rw [show P.length - 1 + 1 = P.length from by omega, hLm] at this
    exact this
  generalize run P s0 = s at en em hK
  have hlastm : (X ++ [m]).getLast? = some m := by simp
  have noW : ¬ Wb (ccc m) (run Q (s.step (classed m))) := fun hW => by
    obtain ⟨⟨z, hz, hb⟩, _⟩ := hW
    rw [← em, hlastm] at hz
    injection hz with hz
    rw [hz] at hb
    omega
  have hmne : (classed m).2 ≠ 0 := hm
  rcases hK with ⟨k1, k2⟩ | ⟨h0, pre, y, post, k1, k2, k3, k4, k5, k6, k7⟩
  · exfalso
    have hnm : ¬ s.may (classed m) := fun hmay => by have := hmay.1; omega
    rw [step_no hnm] at em noW
    have hst2 : (s.push (classed m)).st = -1 := by unfold St.push; simp [hmne, k1]
    cases Q with
    | nil =>
      have e3 : X ++ [m] = s.out ++ [m] := em
      have e4 := List.append_cancel_right e3
      obtain ⟨x, t, hx, hx0⟩ := hX0
      exact k2 x (by rw [← e4, hx]; simp) hx0
    | cons q Q =>
      refine noW (wb_run (ccc_pos m) Q _ (fun x hx => hQ' x (by simp [hx])) ?_)
      rw [step_no (fun hmay => by have := hmay.1; omega)]
      exact wb_push (ccc_pos m) (hQ' q (by simp)) (by rw [hst2]; omega)
  · have k7' : s.last ≤ ccc m := Int.le_trans k7 (hrise h0)
    have hlen : s.out.length = pre.length + 1 + post.length := by rw [k2]; simp; omega
    by_cases hp : s.step (classed m) = s.push (classed m)
    · rw [hp] at em noW
      have hsy : s.out[s.st.toNat]? = some y := by rw [show s.st.toNat = pre.length from by omega, k2, List.getElem?_append_right (Nat.le_refl _), Nat.sub_self]; rfl
      have hR : Rm m s (s.push (classed m)) s := ⟨rfl, by unfold St.push; simp [hmne], by omega, by omega, k7', rfl, rfl, rfl, fun _ _ => rfl, fun x hx => by rw [hsy] at hx; injection hx with hx; rw [← hx]; exact k3⟩
      rcases rm_run Q _ _ hQ' hR with hR' | hW
      · obtain ⟨r1, _, _, _, _, _, r7, r8, r9, r10⟩ := hR'
        rw [r1] at em
        have e4 := List.append_cancel_right em
        refine ⟨en.trans e4.symm, fun z hz => ?_⟩
        rw [e4, List.getLast?_eq_getElem?, r8] at hz
        by_cases hpost : post = []
        · have : ccc z = 0 := r10 z (by rw [← hz]; congr 1; rw [hpost] at hlen; simp at hlen; omega)
          rw [this]
          exact ccc_pos m
        · have hpl : 0 < post.length := List.length_pos_iff.2 hpost
          rw [r9 _ (by omega), k2, List.getElem?_append_right (by simp)] at hz
          rw [show (pre ++ y :: post).length - 1 - pre.length = (post.length - 1) + 1 from by simp; omega, List.getElem?_cons_succ] at hz
          exact Int.le_trans (k4 z (List.mem_of_getElem? hz)).2 k7'
      · exact absurd hW noW
    · exfalso
      have hmay : s.may (classed m) := Classical.byContradiction fun hm => hp (step_no hm)
      cases hj : jn (s.out.getD s.st.toNat 0) (classed m).1 with
      | none => exact hp (step_none hj)
      | some r =>
        have hV : Vm m (s.step (classed m)) := by
          rw [step_some hmay hj]
          refine ⟨by dsimp only; omega, by dsimp only; rw [List.length_set]; omega, fun j hj2 hjl => ?_⟩
          dsimp only at hj2 hjl ⊢
          rw [List.length_set] at hjl
          by_cases hjs : j = s.st.toNat
          · rw [← hjs, List.getElem?_set_self (by omega)]
            intro e
            injection e with e
            have := jn_class hj
            rw [e] at this
            exact hm this
          · rw [List.getElem?_set_ne (fun e => hjs e.symm), k2, List.getElem?_append_right (by omega)]
            rw [show j - pre.length = (j - pre.length - 1) + 1 from by omega, List.getElem?_cons_succ]
            intro e
            have hmem := List.mem_of_getElem? e
            have hle := (k4 m hmem).2
            rcases hmay.2 with h1 | h1
            · have : post.length = 0 := by omega
              rw [List.eq_nil_of_length_eq_zero this] at hmem
              simp at hmem
            · have h1 : s.last < ccc m := h1
              omega
        obtain ⟨v1, v2, v3⟩ := vm_run hm Q _ hQ' hV
        rw [← em] at v2 v3
        refine v3 X.length (by rw [List.length_append, List.length_singleton] at v2; omega) (by simp) ?_
        simp
end Go.Proofs.YtenfdnnagijfnaaGreatDoor
