/-
  norm: what compose keeps; all are int32s; append and store as steps.
-/
import Derived.Test.YtenfdnnagijfnaaGreatDoorNormQ
namespace Go.Proofs.YtenfdnnagijfnaaGreatDoor
open Go.RowKit Norm

theorem of_wf32 {a : Int} (h : -2147483648 ≤ a ∧ a ≤ 2147483647) : (Lit.int .i32 a).wf = true := WalkArith.wf_i32 h
theorem pjN_wf {j : Nat} {a b r : Int} (h : pjN j a b = some r) : 0 ≤ r ∧ r ≤ 20000 := by
  unfold pjN at h
  rw [Option.map_eq_some_iff] at h
  obtain ⟨t, ht, rfl⟩ := h
  have h1 := List.mem_of_find?_eq_some ht
  have hb : tabP.all (fun t => decide (0 ≤ t.1 ∧ t.1 ≤ 20000)) = true := by kernel_rfl
  have := List.all_eq_true.1 hb t (List.mem_of_mem_take h1)
  simpa using this
theorem sylJoin_wf {a b r : Int} (h : sylJoin a b = some r) : 44032 ≤ r ∧ r ≤ 55203 := by
  unfold sylJoin at h
  split at h
  · cases h; omega
  · split at h
    · cases h; omega
    · cases h
theorem jn_wf {a b r : Int} (h : jn a b = some r) : 0 ≤ r ∧ r ≤ 55203 := by
  unfold jn at h
  cases hs : sylJoin a b with
  | some q => rw [hs] at h; cases h; have := sylJoin_wf hs; omega
  | none => rw [hs] at h; have := pjN_wf h; omega
theorem pairR_wf {r : Int} {p : Int × Int} (h : pairR r = some p) : 0 ≤ p.1 ∧ p.1 ≤ 20000 ∧ 768 ≤ p.2 ∧ p.2 ≤ 20000 := by
  unfold pairR at h
  rw [Option.map_eq_some_iff] at h
  obtain ⟨t, ht, rfl⟩ := h
  have h1 := List.mem_of_find?_eq_some ht
  have hb : tabP.all (fun t => decide (0 ≤ t.2.1 ∧ t.2.1 ≤ 20000 ∧ 768 ≤ t.2.2 ∧ t.2.2 ≤ 20000)) = true := by kernel_rfl
  have := List.all_eq_true.1 hb t h1
  simpa using this
theorem spl_wf {r : Int} {p : Int × Int} (h : spl r = some p) : 0 ≤ p.1 ∧ p.1 ≤ 55203 ∧ 0 ≤ p.2 ∧ p.2 ≤ 20000 := by
  unfold spl at h
  split at h
  · rename_i hs
    have hr : 44032 ≤ r ∧ r ≤ 55203 := by simpa [syl] using hs
    cases h
    unfold sylParts
    split <;> (dsimp only; omega)
  · have := pairR_wf h; omega
theorem fullN_c32 : ∀ k r, -2147483648 ≤ r ∧ r ≤ 2147483647 → C32 (fullN k r)
  | 0, r, h => by intro x hx; simp [fullN] at hx; omega
  | k + 1, r, h => by
    unfold fullN
    split
    · exact fullN_c32 k _ (by omega)
    · split
      · exact fullN_c32 k _ (by omega)
      · split
        · rename_i p hp
          have hw := spl_wf hp
          intro x hx
          rcases List.mem_append.1 hx with hx | hx
          · exact fullN_c32 k _ (by omega) x hx
          · simp at hx; omega
        · intro x hx; simp at hx; omega
/-- every code point of l is an int32 -/
abbrev W2 (l : List C) : Prop := ∀ x ∈ l, -2147483648 ≤ x.1 ∧ x.1 ≤ 2147483647
theorem dec_w2 {l : List Int} (h : C32 l) : W2 (dec l) := by
  intro x hx
  obtain ⟨r, hr, hx⟩ := List.mem_flatMap.1 hx
  obtain ⟨y, hy, rfl⟩ := List.mem_map.1 hx
  exact fullN_c32 4 r (h r hr) y hy
theorem mem_isort (l : List C) (x : C) : x ∈ isort l ↔ x ∈ l := ⟨fun h => (isort_stb l).symm.mem h, fun h => (isort_stb l).mem h⟩
theorem mem_arr : ∀ (l acc : List C) (x : C), x ∈ arr acc l ↔ x ∈ acc ∨ x ∈ l
  | [], acc, x => by simp [arr, mem_isort]
  | c :: t, acc, x => by
    unfold arr
    split
    · rw [List.mem_append, List.mem_cons, mem_arr t [], mem_isort, List.mem_cons]; simp
    · rw [mem_arr t (acc ++ [c])]; simp [or_assoc]
theorem arr_w2 {l : List C} (h : W2 l) : W2 (arr [] l) := fun x hx => h x (by simpa using (mem_arr l [] x).1 hx)

/-! what compose keeps -/
def St.inv (k : Nat) (s : St) : Prop := s.out.length ≤ k ∧ (s.st = -1 ∨ (0 ≤ s.st ∧ s.st < s.out.length)) ∧ C32 s.out
def St.may (s : St) (c : C) : Prop := 0 ≤ s.st ∧ (s.st = (s.out.length : Int) - 1 ∨ s.last < c.2)
instance (s : St) (c : C) : Decidable (s.may c) := inferInstanceAs (Decidable (_ ∧ _))
theorem step_no {s : St} {c : C} (h : ¬ s.may c) : s.step c = s.push c := by unfold St.step; exact if_neg h
theorem step_none {s : St} {c : C} (h : jn (s.out.getD s.st.toNat 0) c.1 = none) : s.step c = s.push c := by unfold St.step; rw [h]; simp
theorem step_some {s : St} {c : C} {r : Int} (h : s.may c) (h2 : jn (s.out.getD s.st.toNat 0) c.1 = some r) : s.step c = ⟨s.out.set s.st.toNat r, s.st, s.last⟩ := by unfold St.step; rw [h2]; exact if_pos h
theorem push_inv {k : Nat} {s : St} {c : C} (h : s.inv k) (hc : -2147483648 ≤ c.1 ∧ c.1 ≤ 2147483647) : (s.push c).inv (k + 1) := by
  obtain ⟨h1, h2, h3⟩ := h
  refine ⟨by simp [St.push]; omega, ?_, ?_⟩
  · unfold St.push
    dsimp only
    rw [List.length_append, List.length_singleton]
    split
    · omega
    · omega
  · intro x hx
    rcases List.mem_append.1 hx with hx | hx
    · exact h3 x hx
    · simp at hx; rw [hx]; exact hc
theorem step_inv {k : Nat} {s : St} {c : C} (h : s.inv k) (hc : -2147483648 ≤ c.1 ∧ c.1 ≤ 2147483647) : (s.step c).inv (k + 1) := by
  by_cases hm : s.may c
  · cases hj : jn (s.out.getD s.st.toNat 0) c.1 with
    | none => rw [step_none hj]; exact push_inv h hc
    | some r =>
      rw [step_some hm hj]
      obtain ⟨h1, h2, h3⟩ := h
      refine ⟨by simp; omega, by simpa using h2, ?_⟩
      intro x hx
      rcases List.mem_or_eq_of_mem_set hx with hx | rfl
      · exact h3 x hx
      · have := jn_wf hj; omega
  · rw [step_no hm]; exact push_inv h hc
def stAt (l : List C) (k : Nat) : St := (l.take k).foldl St.step ⟨[], -1, 0⟩
theorem stAt_succ {l : List C} {k : Nat} (hk : k < l.length) : stAt l (k + 1) = (stAt l k).step l[k] := by
  unfold stAt
  rw [List.take_add_one, List.foldl_append, List.getElem?_eq_getElem hk]
  rfl
theorem stAt_inv {l : List C} (h : W2 l) : ∀ k, k ≤ l.length → (stAt l k).inv k
  | 0, _ => ⟨Nat.le_refl _, .inl rfl, by intro x hx; simp [stAt] at hx⟩
  | k + 1, hk => by rw [stAt_succ (by omega)]; exact step_inv (stAt_inv h k (by omega)) (h _ (List.getElem_mem (by omega)))
theorem comp_at (l : List C) : comp l = (stAt l l.length).out := by unfold comp stAt; rw [List.take_length]

section
variable {P : Program} (w : World)
theorem step_append_at {ops : Array Oper} {o : Oper} {a : Act} {K : Act → World → Prop} {Q : Exit → Act → World → Prop} {E : Prop} (hgd : o.guard = none) (s x : Operand) (t : TypeId)
    (ho : o.op = .call { callee := .builtin .append, args := #[s, x], argTypes := #[t, t] })
    (base : Nat) (e : TypeId) (i : TypeInfo) (z : Value) (size bytes : Nat) (ht : P.underlying t = some (.slice e)) (hi : P.info? e = some i) (hz : i.zero = some z)
    (hsize : i.size = size) (hby : i.bytes = bytes) (hzs : z.cells.size = size) (hsz : 0 < size) (g n c : Nat) (xs : List Value) (hs : a.eval s = .slice (some ⟨g, 0, none⟩) n c) (hown : w.ownsRow base e size (.slice (some ⟨g, 0, none⟩) n c) n xs)
    (ad : Addr) (m c1 : Nat) (news : List Value) (hx : a.eval x = .slice (some ad) m c1) (hl : news.length = m * size) (hnews : ∀ j u, news[j]? = some u → w.cell? (ad.add j) = some u) (h1 : ∀ u ∈ news, u.oneCell' = true) (hm : 0 < n + m)
    (h63 : n + m ≤ maxLen) (hbytes : (n + m) * bytes ≤ 140737488355328) (hbase : base ≤ w.heap.size)
    (h : ∀ g' c' w', w'.ownsRow base e size (.slice (some ⟨g', 0, none⟩) (n + m) c') (n + m) (xs ++ news) → w.grownBy w' (some g) → (g' = g ∨ g' = w.heap.size) → K (a.put o.dst (.slice (some ⟨g', 0, none⟩) (n + m) c')) w') : if Region.wanted o (yielded ops a.tmps) = true then Oper.wp P o a w K Q else E := by
  rw [if_pos (show Region.wanted o (yielded ops a.tmps) = true by simp [Region.wanted, hgd])]
  obtain ⟨v', w', hr, h2, h3, _, h5⟩ := run_append_own_at (P := P) w base t o.type e i z size bytes ht hi hz hsize hby hzs hsz _ n xs hown ad m c1 news hl hnews h1 h63 hbytes hbase
  obtain ⟨g', c', rfl, _⟩ := own_known h2 hm
  unfold Oper.wp execOp
  simp only [ho, resolve, invoke, builtin, Sem.run_bind, Sem.run_pure, Result.andThen_ok, List.map_toArray, List.map_cons, List.map_nil, hs, hx, hr]
  exact h g' c' w' h2 h3 (by simpa [Value.ownBlock] using h5)
end
end Go.Proofs.YtenfdnnagijfnaaGreatDoor
