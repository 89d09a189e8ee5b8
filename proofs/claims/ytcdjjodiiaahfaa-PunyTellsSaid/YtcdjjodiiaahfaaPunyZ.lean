/-
  The document's own answer of layer 4: what its Encode reckons step by step, as plain mathematics.
-/
import Derived.Test.YtcdjjodiiaahfaaPunyY
namespace Go.Proofs.Ytcdjjodiiaahfaa
open Go.RowKit Go.Shelf Puny

theorem nodup_len {α : Type} [DecidableEq α] : ∀ (a b : List α), a.Nodup → (∀ x ∈ a, x ∈ b) → a.length ≤ b.length
  | [], _, _, _ => Nat.zero_le _
  | x :: a, b, hn, hs => by
    rw [List.nodup_cons] at hn
    have h1 := nodup_len a (b.erase x) hn.2 (fun y hy => (List.mem_erase_of_ne (fun e => hn.1 (by rw [← e]; exact hy))).2 (hs y (List.mem_cons_of_mem _ hy)))
    have hx := hs x List.mem_cons_self
    rw [List.length_erase_of_mem hx] at h1
    have hp : 0 < b.length := List.length_pos_of_mem hx
    rw [List.length_cons]
    omega
def Ix (l : List Nat) (m k : Nat) : List Nat := (List.range k).filter fun t => decide (128 ≤ l.getD t 0 ∧ l.getD t 0 ≤ m)
theorem pat_split (l : List Nat) (m : Nat) : ∀ k, k ≤ l.length → pat l m k ≤ ((l.take k).filter (fun x => decide (x < 128))).length + (Ix l m k).length
  | 0, _ => by simp [pat]
  | k + 1, h => by
    have ih := pat_split l m k (by omega)
    have hk : k < l.length := by omega
    have e : l.getD k 0 = l[k] := by simp [List.getD, hk]
    have e2 : Ix l m (k + 1) = Ix l m k ++ (if 128 ≤ l[k] ∧ l[k] ≤ m then [k] else []) := by
      unfold Ix
      rw [List.range_succ, List.filter_append]
      congr 1
      by_cases h1 : 128 ≤ l[k] ∧ l[k] ≤ m
      · rw [if_pos h1, List.filter_cons, if_pos (by rw [e]; simpa using h1)]; rfl
      · rw [if_neg h1, List.filter_cons, if_neg (by rw [e]; simpa using h1)]; rfl
    have e3 : ((l.take (k + 1)).filter (fun x => decide (x < 128))).length = ((l.take k).filter (fun x => decide (x < 128))).length + (if l[k] < 128 then 1 else 0) := by
      rw [take_snoc' hk, List.filter_append, List.length_append]
      congr 1
      by_cases h1 : l[k] < 128 <;> simp [h1]
    rw [e2, e3, List.length_append]
    by_cases h1 : l[k] ≤ m
    · rw [pat_le_step hk h1]
      by_cases h2 : l[k] < 128
      · rw [if_pos h2]; omega
      · rw [if_pos (show 128 ≤ l[k] ∧ l[k] ≤ m by omega), List.length_singleton]; omega
    · rw [pat_gt_step hk h1]; omega
theorem evi_at {l : List Nat} {j : Nat} {x : Nat × Nat} (h : (evi l)[j]? = some x) : ∃ hj : j < (evi l).length, (evi l)[j] = x ∧ l[x.2]? = some x.1 ∧ 128 ≤ x.1 ∧ x.2 < l.length := by
  have hj : j < (evi l).length := by
    by_cases h1 : j < (evi l).length
    · exact h1
    · rw [List.getElem?_eq_none (by omega)] at h; cases h
  rw [List.getElem?_eq_getElem hj] at h
  injection h with h
  have h1 := (evi_mem l x).1 (h ▸ List.getElem_mem hj)
  refine ⟨hj, h, h1.1, h1.2, ?_⟩
  by_cases h2 : x.2 < l.length
  · exact h2
  · rw [List.getElem?_eq_none (by omega)] at h1; cases h1.1
theorem pat_bound {l : List Nat} {j : Nat} {x : Nat × Nat} (h : (evi l)[j]? = some x) : pat l x.1 x.2 ≤ (Puny.basics l).length + j := by
  obtain ⟨hj, he, h1, h2, h3⟩ := evi_at h
  have a := pat_split l x.1 x.2 (by omega)
  have b : ((l.take x.2).filter (fun y => decide (y < 128))).length ≤ (Puny.basics l).length := by
    unfold Puny.basics
    exact ((List.take_sublist x.2 l).filter _).length_le
  have c : ((Ix l x.1 x.2).map fun t => (l.getD t 0, t)).length ≤ ((evi l).take j).length := by
    refine nodup_len _ _ ?_ ?_
    · unfold List.Nodup
      rw [List.pairwise_map]
      refine List.Pairwise.imp ?_ (List.Pairwise.filter _ List.pairwise_lt_range)
      intro s t hst e
      injection e with e1 e2
      omega
    · intro y hy
      obtain ⟨t, ht, rfl⟩ := List.mem_map.1 hy
      unfold Ix at ht
      rw [List.mem_filter, List.mem_range, decide_eq_true_eq] at ht
      obtain ⟨t1, t2, t3⟩ := ht
      have htl : t < l.length := by omega
      have e : l[t]? = some (l.getD t 0) := by simp [List.getD, htl]
      obtain ⟨i, hi, hie⟩ := List.mem_iff_getElem.1 ((evi_mem l (l.getD t 0, t)).2 ⟨e, t2⟩)
      have hij : i < j := by
        rcases Nat.lt_trichotomy i j with q | q | q
        · exact q
        · subst q; rw [he] at hie; rw [hie] at t1; simp at t1
        · have h6 := List.pairwise_iff_getElem.1 (evi_rise l) j i hj hi q
          rw [hie, he] at h6
          unfold Lex at h6
          simp only at h6
          omega
      exact List.mem_iff_getElem.2 ⟨i, by rw [List.length_take]; omega, by rw [List.getElem_take]; exact hie⟩
  rw [List.length_map, List.length_take] at c
  omega

theorem dels_take : ∀ (es : List (Nat × Nat)) (h n i j : Nat), dels (es.take j) h n i = (dels es h n i).take j
  | [], _, _, _, j => by simp [dels]
  | (m, p) :: es, h, n, i, 0 => by simp [dels]
  | (m, p) :: es, h, n, i, j + 1 => by rw [List.take_succ_cons, dels, dels, List.take_succ_cons, dels_take es]
theorem dels_length : ∀ (es : List (Nat × Nat)) (h n i : Nat), (dels es h n i).length = es.length
  | [], _, _, _ => rfl
  | (m, p) :: es, h, n, i => by rw [dels, List.length_cons, List.length_cons, dels_length es]
theorem small_take : ∀ (ds : List Nat) (h j : Nat), Small ds h → Small (ds.take j) h
  | [], _, j, _ => by simp [Small]
  | d :: ds, h, 0, _ => trivial
  | d :: ds, h, j + 1, hs => ⟨hs.1, small_take ds (h + 1) j hs.2⟩
theorem small_last : ∀ (a : List Nat) (d h : Nat), Small (a ++ [d]) h → d < many * (h + a.length + 1)
  | [], d, h, hs => hs.1
  | x :: a, d, h, hs => by
    have := small_last a d (h + 1) hs.2
    rw [List.length_cons]
    rwa [show h + (a.length + 1) + 1 = h + 1 + a.length + 1 by omega]

/-! what Encode keeps behind j steps -/
abbrev hB (L : List Nat) : Nat := (Puny.basics L).length
def nI (L : List Nat) (j : Nat) : Nat × Nat := fin ((evs L).take j) 128 0
def dT (L : List Nat) (j : Nat) : List Nat := dels ((evs L).take j) (hB L) 128 0
def bT (L : List Nat) (j : Nat) : Nat × Nat := bias (dT L j) (hB L) 72 700
def tT (L : List Nat) (j : Nat) : List UInt8 := hd L ++ (encD (dT L j) (hB L) 72 700).map sign
def dN (L : List Nat) (j : Nat) (x : Nat × Nat) : Nat := (x.1 - (nI L j).1) * (hB L + j + 1) + pat L x.1 x.2 - (nI L j).2

theorem evs_len (L : List Nat) : (evs L).length = (evi L).length := by rw [evs_evi, List.length_map]
theorem take_evs {L : List Nat} {j : Nat} {x : Nat × Nat} (h : (evi L)[j]? = some x) : (evs L).take (j + 1) = (evs L).take j ++ [(x.1, pat L x.1 x.2)] := by
  obtain ⟨hj, he, _⟩ := evi_at h
  have hj2 : j < (evs L).length := by rw [evs_len]; exact hj
  rw [take_snoc' hj2]
  congr 2
  have : (evs L)[j]? = some (x.1, pat L x.1 x.2) := by rw [evs_evi, List.getElem?_map, h]; rfl
  rw [List.getElem?_eq_getElem hj2] at this
  exact Option.some.inj this
theorem len_take {L : List Nat} {j : Nat} (hj : j ≤ (evi L).length) : ((evs L).take j).length = j := by rw [List.length_take, evs_len]; omega
theorem nI_zero (L : List Nat) : nI L 0 = (128, 0) := by simp [nI, fin]
theorem nI_succ {L : List Nat} {j : Nat} {x : Nat × Nat} (h : (evi L)[j]? = some x) : nI L (j + 1) = (x.1, pat L x.1 x.2 + 1) := by unfold nI; rw [take_evs h, fin_snoc]
theorem dT_zero (L : List Nat) : dT L 0 = [] := by simp [dT, dels]
theorem dT_len {L : List Nat} {j : Nat} (hj : j ≤ (evi L).length) : (dT L j).length = j := by unfold dT; rw [dels_length, len_take hj]
theorem dT_succ {L : List Nat} {j : Nat} {x : Nat × Nat} (h : (evi L)[j]? = some x) : dT L (j + 1) = dT L j ++ [dN L j x] := by
  obtain ⟨hj, _⟩ := evi_at h
  unfold dT
  rw [take_evs h, dels_snoc, len_take (by omega)]
  rfl
theorem dT_small {L : List Nat} (hs : ∀ x ∈ L, sca x = true) (j : Nat) : Small (dT L j) (hB L) := by
  unfold dT
  rw [dels_take]
  exact small_take _ _ _ (ins_deltas L hs).2
theorem dN_lt {L : List Nat} (hs : ∀ x ∈ L, sca x = true) {j : Nat} {x : Nat × Nat} (h : (evi L)[j]? = some x) : dN L j x < many * (hB L + j + 1) := by
  obtain ⟨hj, _⟩ := evi_at h
  have h1 := dT_small hs (j + 1)
  rw [dT_succ h] at h1
  have h2 := small_last _ _ _ h1
  rwa [dT_len (by omega)] at h2
theorem nI_ok {L : List Nat} {j : Nat} {x : Nat × Nat} (h : (evi L)[j]? = some x) : (nI L j).1 ≤ x.1 ∧ (nI L j).2 ≤ hB L + j ∧ (nI L j).2 ≤ (x.1 - (nI L j).1) * (hB L + j + 1) + pat L x.1 x.2 := by
  obtain ⟨hj, he, h1, h2, h3⟩ := evi_at h
  cases j with
  | zero => rw [nI_zero]; exact ⟨h2, Nat.zero_le _, Nat.zero_le _⟩
  | succ j =>
    have hj' : j < (evi L).length := by omega
    have hy : (evi L)[j]? = some (evi L)[j] := List.getElem?_eq_getElem hj'
    have hb := pat_bound hy
    have h6 := List.pairwise_iff_getElem.1 (evi_rise L) j (j + 1) hj' hj (by omega)
    rw [he] at h6
    rw [nI_succ hy]
    generalize (evi L)[j] = y at hy hb h6 ⊢
    obtain ⟨_, _, y1, y2, y3⟩ := evi_at hy
    unfold Lex at h6
    simp only
    refine ⟨by omega, by unfold hB; omega, ?_⟩
    rcases h6 with h6 | ⟨h6, h7⟩
    · have : 1 * (hB L + (j + 1) + 1) ≤ (x.1 - y.1) * (hB L + (j + 1) + 1) := Nat.mul_le_mul_right _ (by omega)
      unfold hB at *
      omega
    · rw [h6, Nat.sub_self, Nat.zero_mul, Nat.zero_add]
      have e : L[y.2] = x.1 := by
        rw [List.getElem?_eq_getElem y3] at y1
        rw [Option.some.inj y1, h6]
      have s1 := pat_le_step (m := x.1) y3 (by omega)
      have mono : ∀ a b, a ≤ b → pat L x.1 a ≤ pat L x.1 b := fun a b hab => by
        unfold pat
        exact (((List.take_prefix_take_left (l := L) hab).sublist).filter _).length_le
      have := mono (y.2 + 1) x.2 (by omega)
      omega
theorem bT_zero (L : List Nat) : bT L 0 = (72, 700) := by unfold bT; rw [dT_zero]; rfl
theorem bT_succ {L : List Nat} {j : Nat} {x : Nat × Nat} (h : (evi L)[j]? = some x) : bT L (j + 1) = (next (dN L j x) (bT L j).2 (hB L + j + 1), 2) := by
  obtain ⟨hj, _⟩ := evi_at h
  unfold bT
  rw [dT_succ h, bias_snoc, dT_len (by omega)]
theorem bT_part {L : List Nat} {j : Nat} (hj : j ≤ (evi L).length) : (bT L j).2 = if decide (j = 0) then 700 else 2 := by
  cases j with
  | zero => rw [bT_zero]; rfl
  | succ j => rw [bT_succ (List.getElem?_eq_getElem (show j < (evi L).length by omega))]; rfl
theorem bT_lead {L : List Nat} (hs : ∀ x ∈ L, sca x = true) {j : Nat} (hj : j ≤ (evi L).length) (hl : hB L + j ≤ 1000) : (bT L j).1 ≤ 3000000000 := by
  cases j with
  | zero => rw [bT_zero]; omega
  | succ j =>
    have hx := List.getElem?_eq_getElem (show j < (evi L).length by omega)
    rw [bT_succ hx]
    have h1 := dN_lt hs hx
    have h2 : many * (hB L + j + 1) ≤ many * 1001 := Nat.mul_le_mul_left _ (by omega)
    have h3 := next_le (dN L j (evi L)[j]) (bT L j).2 (hB L + j + 1)
    unfold many at h1 h2
    simp only
    omega
theorem tT_zero (L : List Nat) : tT L 0 = hd L := by unfold tT; rw [dT_zero]; simp [encD]
theorem tT_succ {L : List Nat} {j : Nat} {x : Nat × Nat} (h : (evi L)[j]? = some x) : tT L (j + 1) = tT L j ++ (digs (bT L j).1 1 (dN L j x)).map sign := by
  unfold tT
  rw [dT_succ h, encD_snoc, List.map_append, List.append_assoc]
  rfl
theorem tT_end {L : List Nat} {j : Nat} (h : (evi L).length ≤ j) : tT L j = encT L := by
  unfold tT dT
  rw [List.take_of_length_le (by rw [evs_len]; exact h)]
  rfl
theorem tT_len {L : List Nat} (hs : ∀ x ∈ L, sca x = true) {j : Nat} (hj : j ≤ (evi L).length) (hl : hB L + j ≤ 1000) : (tT L j).length ≤ 20000 := by
  have h1 := encD_long (dT L j) (hB L) 72 700 (dT_small hs j) (by rw [dT_len hj]; omega)
  rw [dT_len hj] at h1
  unfold tT
  rw [List.length_append, List.length_map]
  have h3 : (hd L).length ≤ hB L + 1 := by
    unfold hd; rw [List.length_append, List.length_map]; split <;> simp
  omega
theorem evi_len {L : List Nat} (hs : ∀ x ∈ L, sca x = true) : hB L + (evi L).length = L.length := by
  have h := deltas_len hs
  have e : (deltas L).length = (evs L).length := by unfold deltas; rw [dels_length]
  rw [e, evs_len] at h
  exact h.symm
/-- the cut behind step j -/
theorem past_zero (L : List Nat) : ∀ i (hi : i < (evi L).length), Past 128 (-1) (evi L)[i] ↔ 0 ≤ i := fun i hi => by
  have := (evi_mem L _).1 (List.getElem_mem hi)
  unfold Past
  exact ⟨fun _ => Nat.zero_le _, fun _ => ⟨by omega, by omega⟩⟩
theorem past_succ {L : List Nat} {j : Nat} {x : Nat × Nat} (h : (evi L)[j]? = some x) : ∀ i (hi : i < (evi L).length), Past x.1 (x.2 : Int) (evi L)[i] ↔ j + 1 ≤ i := fun i hi => by
  obtain ⟨hj, he, _⟩ := evi_at h
  unfold Past
  rcases Nat.lt_trichotomy i j with q | q | q
  · have h6 := List.pairwise_iff_getElem.1 (evi_rise L) i j hi hj q
    rw [he] at h6
    unfold Lex at h6
    omega
  · subst q
    rw [he]
    omega
  · have h6 := List.pairwise_iff_getElem.1 (evi_rise L) j i hj hi q
    rw [he] at h6
    unfold Lex at h6
    omega
end Go.Proofs.Ytcdjjodiiaahfaa
