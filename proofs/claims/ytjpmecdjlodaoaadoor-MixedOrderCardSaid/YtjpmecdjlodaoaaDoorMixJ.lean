/-
  fascialaw10.MixedOrder: parts of a label are never more restricted; a map that counts scripts.
-/
import Derived.Test.YtjpmecdjlodaoaaDoorMixI
import Derived.Maps.OwnOps
import Derived.Maps.Views
import Derived.Maps.OwnSet
namespace Go.Proofs.YtjpmecdjlodaoaaDoor.Mix
open Go.RowKit Go.Maps Ucd Rul

theorem sb_mono {a l : List Int} (h : ∀ x ∈ a, x ∈ l) (s : Nat) (hs : sb a s = true) : sb l s = true := by
  unfold sb at hs ⊢
  rw [Bool.and_eq_true, List.any_eq_true] at hs ⊢
  obtain ⟨h1, r, hr, e⟩ := hs
  exact ⟨h1, r, h r hr, e⟩
theorem only_mono {p q : Nat → Bool} (h : ∀ s, p s = true → q s = true) {ks : List Int} (hq : only q ks = true) : only p ks = true := by
  unfold only at hq ⊢
  rw [List.all_eq_true] at hq ⊢
  intro s hs
  have := hq s hs
  rw [Bool.or_eq_true, Bool.not_eq_true'] at this ⊢
  rcases this with h1 | h1
  · refine .inl ?_
    cases hp : p s with
    | false => rfl
    | true => rw [h s hp] at h1; cases h1
  · exact .inr h1
theorem east_mono {p q : Nat → Bool} (h : ∀ s, p s = true → q s = true) (hq : east q = true) : east p = true := by
  unfold east at hq ⊢
  rw [Bool.or_eq_true] at hq ⊢
  rcases hq with h1 | h1
  · exact .inl (only_mono h h1)
  · exact .inr (only_mono h h1)
theorem scr_mono {p q : Nat → Bool} (h : ∀ s, p s = true → q s = true) : (scr p).length ≤ (scr q).length := by
  unfold scr
  rw [List.length_map, List.length_map, ← List.countP_eq_length_filter, ← List.countP_eq_length_filter]
  exact List.countP_mono_left fun s _ => h s
theorem tog_mono {p q : Nat → Bool} (h : ∀ s, p s = true → q s = true) (hq : tog q = true) : tog p = true := by
  unfold tog at hq ⊢
  have := scr_mono h
  rw [Bool.or_eq_true, decide_eq_true_eq] at hq ⊢
  rcases hq with h1 | h1
  · exact .inl (by omega)
  · exact .inr (east_mono h h1)
theorem lv_mono {p q : Nat → Bool} (h : ∀ s, p s = true → q s = true) : lv p ≤ lv q := by
  unfold lv
  by_cases h1 : tog q = true
  · rw [if_pos h1, if_pos (tog_mono h h1)]; omega
  · rw [if_neg h1]
    by_cases h2 : east (sub q [2]) = true
    · rw [if_pos h2]
      have : east (sub p [2]) = true := east_mono (fun s hs => by
        unfold sub at hs ⊢
        rw [Bool.and_eq_true] at hs ⊢
        exact ⟨h s hs.1, hs.2⟩) h2
      rw [if_pos this]
      split <;> omega
    · rw [if_neg h2]
      split
      · omega
      · split <;> omega
theorem lv_ge (p : Nat → Bool) : 2 ≤ lv p := by unfold lv; split <;> (try split) <;> omega
theorem lev_mono {a l : List Int} (h : ∀ x ∈ a, x ∈ l) : lev a ≤ lev l := by
  unfold lev
  by_cases h1 : asc l = true
  · have : asc a = true := by
      unfold asc at h1 ⊢
      rw [List.all_eq_true] at h1 ⊢
      exact fun x hx => h1 x (h x hx)
    rw [if_pos h1, if_pos this]
    omega
  · rw [if_neg h1]
    have := lv_mono (sb_mono h)
    have := lv_ge (sb l)
    split <;> omega
theorem dgs_mono {a l : List Int} (h : ∀ x ∈ a, x ∈ l) (hd : dgs l = true) : dgs a = true := by
  rw [dgs_iff] at hd ⊢
  exact fun x hx y hy => hd x (h x hx) y (h y hy)
theorem same_all {a l : List Int} (h : ∀ x, x ∈ a ↔ x ∈ l) : scripts a = scripts l ∧ lev a = lev l ∧ dgs a = dgs l ∧ Mix.chk a = Mix.chk l := by
  have h1 : ∀ x ∈ a, x ∈ l := fun x => (h x).1
  have h2 : ∀ x ∈ l, x ∈ a := fun x => (h x).2
  have e1 : scripts a = scripts l := scr_congr fun s _ => by
    rw [Bool.eq_iff_iff]
    exact ⟨sb_mono h1 s, sb_mono h2 s⟩
  have e2 : lev a = lev l := by
    have := lev_mono h1
    have := lev_mono h2
    omega
  have e3 : dgs a = dgs l := by
    rw [Bool.eq_iff_iff]
    exact ⟨dgs_mono h2, dgs_mono h1⟩
  refine ⟨e1, e2, e3, ?_⟩
  unfold Mix.chk
  rw [e2, e3]
theorem turned_mem (l : List Int) (k : Nat) (x : Int) : x ∈ (l.drop k ++ l.take k) ++ l ↔ x ∈ l := by
  rw [List.mem_append, List.mem_append]
  constructor
  · rintro ((h | h) | h)
    · exact List.mem_of_mem_drop h
    · exact List.mem_of_mem_take h
    · exact h
  · exact fun h => .inr h
theorem scripts_mem {l : List Int} {c : Int} : c ∈ scripts l ↔ ∃ s : Nat, s < 12 ∧ sb l s = true ∧ (s : Int) = c := by
  unfold scripts scr
  rw [List.mem_map]
  constructor
  · rintro ⟨s, hs, e⟩
    exact ⟨s, List.mem_range.1 (List.mem_filter.1 hs).1, (List.mem_filter.1 hs).2, e⟩
  · rintro ⟨s, h1, h2, e⟩
    exact ⟨s, List.mem_filter.2 ⟨List.mem_range.2 h1, h2⟩, e⟩
theorem scripts_bd {l : List Int} {c : Int} (h : c ∈ scripts l) : 2 ≤ c ∧ c ≤ 11 := by
  obtain ⟨s, h1, h2, rfl⟩ := scripts_mem.1 h
  unfold sb at h2
  rw [Bool.and_eq_true, decide_eq_true_eq] at h2
  omega
theorem scripts_len (l : List Int) : (scripts l).length ≤ 12 := scrK_len (sb l) 12
theorem scripts_rise (l : List Int) : (scripts l).Pairwise (· < ·) := by
  unfold scripts scr
  rw [List.pairwise_map]
  exact (List.pairwise_lt_range.filter _).imp (fun h => by omega)
theorem rise_at {xs : List Int} (h : xs.Pairwise (· < ·)) {i : Nat} (hi : i + 1 < xs.length) : xs[i]! < xs[i + 1]! := by
  rw [getElem!_pos xs i (by omega), getElem!_pos xs (i + 1) hi]
  exact List.pairwise_iff_getElem.1 h i (i + 1) (by omega) hi (by omega)

/-! The map. -/
theorem law8 : Keyed Tryd.prog 5 := int_keyed Tryd.underlying5
theorem zero8 (w : World) : (zeroValue 3).run Tryd.prog w = .ok (.int .i64 0) w := by kernel_rfl
abbrev CM (w : World) (b n : Nat) (D : DataW Unit) : Prop := w.ownsMap Tryd.prog 5 (plainElem Tryd.prog 3) b n D
/-- how many unlike ones stand in cs -/
def dst (cs : List Int) : Nat := (List.range 12).countP (fun s : Nat => cs.contains (s : Int))
theorem countP_one (p : Nat → Bool) (x : Nat) (hx : p x = false) : ∀ L : List Nat, L.countP (fun s => p s || s == x) = L.countP p + L.count x
  | [] => rfl
  | a :: t => by
    rw [List.countP_cons, List.countP_cons, List.count_cons, countP_one p x hx t]
    by_cases h : a = x
    · subst h
      rw [hx]
      simp
      omega
    · have h2 : (a == x) = false := by simpa using h
      rw [h2]
      simp
      omega
theorem one_of_12 : ∀ x : Nat, x < 12 → (List.range 12).count x = 1 := by decide
theorem dst_snoc (cs : List Int) (x : Int) (hx : 0 ≤ x ∧ x ≤ 11) : dst (cs ++ [x]) = if cs.contains x = true then dst cs else dst cs + 1 := by
  obtain ⟨k, rfl⟩ : ∃ k : Nat, x = (k : Int) := ⟨x.toNat, by omega⟩
  unfold dst
  have e : ∀ s : Nat, (cs ++ [(k : Int)]).contains (s : Int) = (cs.contains (s : Int) || s == k) := fun s => by
    rw [Bool.eq_iff_iff, List.contains_iff_mem, List.mem_append, List.mem_singleton, Bool.or_eq_true, List.contains_iff_mem, beq_iff_eq]
    exact or_congr Iff.rfl (by omega)
  by_cases h : cs.contains (k : Int) = true
  · rw [if_pos h]
    refine List.countP_congr fun s _ => ?_
    rw [e s, Bool.or_eq_true, beq_iff_eq]
    constructor
    · rintro (h1 | h1)
      · exact h1
      · rw [h1]; exact h
    · exact .inl
  · have h' : cs.contains (k : Int) = false := by simpa using h
    rw [if_neg h]
    rw [show (fun s : Nat => (cs ++ [(k : Int)]).contains (s : Int)) = (fun s : Nat => cs.contains (s : Int) || s == k) from funext e]
    rw [countP_one (fun s : Nat => cs.contains (s : Int)) k h', one_of_12 k (by omega)]
/-- how often each script stands in cs; what is a key stands there; how many keys there are -/
def Cnt (cs : List Int) (D : DataW Unit) : Prop := Tidy D ∧ (∀ c, (Lit.int .u8 c).wf = true → D.atKey (.int .u8 c) (.lit (.int .i64 0)) = .lit (.int .i64 ((cs.count c : Nat) : Int))) ∧ (∀ c, (Lit.int .u8 c).wf = true → Maps.has D (.int .u8 c) = cs.contains c) ∧ Maps.size D = dst cs
theorem cnt_nil : Cnt [] (.map []) := ⟨tidy_empty, fun _ _ => rfl, fun c _ => by simp [Maps.has], by decide +kernel⟩
theorem wf_scr {c : Int} (h : 0 ≤ c ∧ c ≤ 11) : (Lit.int .u8 c).wf = true := by
  simp [Lit.wf, IntKind.min, IntKind.max, IntKind.bits, IntKind.signed]; omega
theorem cnt_step {cs : List Int} {D : DataW Unit} {x v : Int} (h : Cnt cs D) (hx : 0 ≤ x ∧ x ≤ 11) (hc : D.atKey (.int .u8 x) (.lit (.int .i64 0)) = .lit (.int .i64 v)) :
    v = (cs.count x : Nat) ∧ Cnt (cs ++ [x]) (D.put (.int .u8 x) (.lit (.int .i64 (v + 1)))) := by
  have hw := wf_scr hx
  have hk := law8.key (keyOf_int_mk Tryd.underlying5 hw)
  have e := h.2.1 x hw
  rw [hc] at e
  have e1 : v = (cs.count x : Nat) := (Lit.int.inj (DataW.lit.inj e)).2
  refine ⟨e1, h.1.put hk _, fun y hy => ?_, fun y hy => ?_, ?_⟩
  · by_cases hxy : y = x
    · subst hxy
      rw [atKey_put_same h.1.isMap hk, e1, List.count_append, List.count_singleton_self]
      rfl
    · rw [atKey_put_other (fun k => hxy (Lit.int.inj k).2), h.2.1 y hy, List.count_append, List.count_singleton, if_neg (by simpa using fun e => hxy e.symm)]
      rfl
  · by_cases hxy : y = x
    · subst hxy
      rw [has_put_same h.1.isMap hk]
      simp
    · rw [has_put_other (fun k => hxy (Lit.int.inj k).2), h.2.2.1 y hy, Bool.eq_iff_iff, List.contains_iff_mem, List.contains_iff_mem, List.mem_append, List.mem_singleton]
      exact ⟨.inl, fun h => h.elim id (fun e => absurd e hxy)⟩
  · rw [size_put h.1, h.2.2.1 x hw, h.2.2.2, dst_snoc cs x hx]
theorem count_bd {cs : List Int} {D : DataW Unit} {x v : Int} (h : Cnt cs D) (hx : 0 ≤ x ∧ x ≤ 11) (hc : D.atKey (.int .u8 x) (.lit (.int .i64 0)) = .lit (.int .i64 v)) (hl : cs.length ≤ 200) : 0 ≤ v ∧ v ≤ 200 := by
  rw [(cnt_step h hx hc).1]
  have : cs.count x ≤ cs.length := List.count_le_length
  omega
theorem map_below {w w1 : World} {b n : Nat} {D : DataW Unit} (h : CM w b n D) (hB : Below w.heap.size w w1) : CM w1 b n D :=
  h.kept (row := none) ⟨hB.os, hB.tape, hB.output, hB.size, fun j hj _ => hB.block j hj⟩ (by simp)
theorem cm_look {w : World} {b n : Nat} {D : DataW Unit} {cs : List Int} (h : CM w b n D) (hC : Cnt cs D) (c : Int) (hc : (Lit.int .u8 c).wf = true) : (Instr.lookup 29 (.map (some b)) (.int .u8 c) false).run Tryd.prog w = .ok (.int .i64 ((cs.count c : Nat) : Int)) w := by
  obtain ⟨v, hrun, hat, _⟩ := h.lookup_int law8 Tryd.underlying29 Tryd.underlying3 (zero8 w) (keyOf_int_mk Tryd.underlying5 hc)
  rw [hC.2.1 c hc] at hat
  rw [hrun, ← (Lit.int.inj (DataW.lit.inj hat)).2]
/-- both parts' scripts are the label's -/
theorem parts_contain (l : List Int) (k : Nat) (c : Int) : c ∈ scripts (l.take k) ++ scripts (l.drop k) ↔ c ∈ scripts l := by
  rw [List.mem_append, scripts_mem, scripts_mem, scripts_mem]
  constructor
  · rintro (⟨s, h1, h2, e⟩ | ⟨s, h1, h2, e⟩)
    · exact ⟨s, h1, sb_mono (fun x hx => List.mem_of_mem_take hx) s h2, e⟩
    · exact ⟨s, h1, sb_mono (fun x hx => List.mem_of_mem_drop hx) s h2, e⟩
  · rintro ⟨s, h1, h2, e⟩
    unfold sb at h2
    rw [Bool.and_eq_true, List.any_eq_true] at h2
    obtain ⟨h3, r, hr, er⟩ := h2
    rw [← List.take_append_drop k l, List.mem_append] at hr
    rcases hr with hr | hr
    · exact .inl ⟨s, h1, by unfold sb; rw [h3, Bool.true_and]; exact List.any_eq_true.2 ⟨r, hr, er⟩, e⟩
    · exact .inr ⟨s, h1, by unfold sb; rw [h3, Bool.true_and]; exact List.any_eq_true.2 ⟨r, hr, er⟩, e⟩
theorem dst_parts (l : List Int) (k : Nat) : dst (scripts (l.take k) ++ scripts (l.drop k)) = (scripts l).length := by
  unfold dst
  show _ = (scr (sb l)).length
  unfold scr
  rw [List.length_map, ← List.countP_eq_length_filter]
  refine List.countP_congr fun s hs => ?_
  rw [List.contains_iff_mem, parts_contain, scripts_mem]
  have hs := List.mem_range.1 hs
  constructor
  · rintro ⟨q, _, h2, e⟩
    have : q = s := by omega
    rw [← this]; exact h2
  · exact fun h => ⟨s, hs, h, rfl⟩
end Go.Proofs.YtjpmecdjlodaoaaDoor.Mix
