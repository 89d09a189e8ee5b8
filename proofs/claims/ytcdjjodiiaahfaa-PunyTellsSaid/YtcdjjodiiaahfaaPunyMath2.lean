/-
  Plain mathematics of Punycode: the insertions that a row of scalars says, and back. Nothing of the program.
-/
import Derived.Test.YtcdjjodiiaahfaaPunyMath
namespace Puny

def sca (n : Nat) : Bool := decide (n ≤ 1114111 ∧ (n < 55296 ∨ 57343 < n))

/-! ### the scalars that are not basic, each once, rising -/
def once : List Nat → List Nat
  | [] => []
  | [x] => [x]
  | x :: y :: l => if x = y then once (y :: l) else x :: once (y :: l)
def ms (l : List Nat) : List Nat := once ((l.filter (128 ≤ ·)).mergeSort (fun a b => decide (a ≤ b)))

theorem once_mem (l : List Nat) (z : Nat) : z ∈ once l ↔ z ∈ l := by
  fun_induction once l with
  | case1 => simp
  | case2 => simp
  | case3 x l ih => rw [ih]; simp
  | case4 x y l h ih => rw [List.mem_cons, ih]; simp

theorem once_rise (l : List Nat) (h : l.Pairwise (· ≤ ·)) : (once l).Pairwise (· < ·) := by
  fun_induction once l with
  | case1 => simp
  | case2 => simp
  | case3 x l ih => exact ih (List.pairwise_cons.1 h).2
  | case4 x y l hne ih =>
    rw [List.pairwise_cons] at h ⊢
    refine ⟨fun z hz => ?_, ih h.2⟩
    have hz' := (once_mem (y :: l) z).1 hz
    have h1 := h.1 y (by simp)
    rcases List.mem_cons.1 hz' with rfl | hz''
    · omega
    · have := (List.pairwise_cons.1 h.2).1 z hz''
      omega

theorem ms_mem (l : List Nat) (z : Nat) : z ∈ ms l ↔ z ∈ l ∧ 128 ≤ z := by
  unfold ms
  rw [once_mem, List.mem_mergeSort, List.mem_filter]
  simp
theorem ms_rise (l : List Nat) : (ms l).Pairwise (· < ·) := by
  refine once_rise _ ?_
  have := List.pairwise_mergeSort (le := fun a b : Nat => decide (a ≤ b)) (by intro a b c; simp; omega) (by intro a b; simp; omega) (l.filter (128 ≤ ·))
  exact this.imp fun h => by simpa using h

theorem rise_ext : ∀ (a b : List Nat), a.Pairwise (· < ·) → b.Pairwise (· < ·) → (∀ z, z ∈ a ↔ z ∈ b) → a = b
  | [], [], _, _, _ => rfl
  | [], y :: b, _, _, h => by have := (h y).2 (by simp); simp at this
  | x :: a, [], _, _, h => by have := (h x).1 (by simp); simp at this
  | x :: a, y :: b, ha, hb, h => by
    rw [List.pairwise_cons] at ha hb
    have hx : x = y := by
      have h1 := (h x).1 (by simp)
      have h2 := (h y).2 (by simp)
      rcases List.mem_cons.1 h1 with e | e
      · exact e
      · rcases List.mem_cons.1 h2 with e2 | e2
        · exact e2.symm
        · have := ha.1 y e2; have := hb.1 x e; omega
    subst hx
    congr 1
    refine rise_ext a b ha.2 hb.2 fun z => ⟨fun hz => ?_, fun hz => ?_⟩
    · rcases List.mem_cons.1 ((h z).1 (List.mem_cons_of_mem _ hz)) with e | e
      · have := ha.1 z hz; omega
      · exact e
    · rcases List.mem_cons.1 ((h z).2 (List.mem_cons_of_mem _ hz)) with e | e
      · have := hb.1 z hz; omega
      · exact e

/-! ### the insertions, in their order: (the scalar, its place) -/
def scan (m : Nat) : List Nat → Nat → List (Nat × Nat)
  | [], _ => []
  | r :: l, p => if r = m then (m, p) :: scan m l (p + 1) else if r ≤ m then scan m l (p + 1) else scan m l p
def evs (l : List Nat) : List (Nat × Nat) := (ms l).flatMap fun m => scan m l 0

/-- their deltas -/
def dels : List (Nat × Nat) → Nat → Nat → Nat → List Nat
  | [], _, _, _ => []
  | (m, p) :: es, h, n, i => ((m - n) * (h + 1) + p - i) :: dels es (h + 1) m (p + 1)
def basics (l : List Nat) : List Nat := l.filter (· < 128)
def deltas (l : List Nat) : List Nat := dels (evs l) (basics l).length 128 0

/-- what a row becomes by deltas -/
def ins : List Nat → Nat → Nat → List Nat → Option (List Nat)
  | out, _, _, [] => some out
  | out, n, i, d :: ds =>
    if sca (n + (i + d) / (out.length + 1)) then
      ins (out.take ((i + d) % (out.length + 1)) ++ (n + (i + d) / (out.length + 1)) :: out.drop ((i + d) % (out.length + 1))) (n + (i + d) / (out.length + 1)) ((i + d) % (out.length + 1) + 1) ds
    else none

theorem ins_step {a b : List Nat} {m n i : Nat} (hm : sca m = true) (hn : n ≤ m) (h : n < m ∧ i ≤ (a ++ b).length ∨ n = m ∧ i ≤ a.length) (ds : List Nat) :
    ins (a ++ b) n i (((m - n) * ((a ++ b).length + 1) + a.length - i) :: ds) = ins (a ++ m :: b) m (a.length + 1) ds := by
  have hle : i ≤ (m - n) * ((a ++ b).length + 1) + a.length := by
    rcases h with ⟨h1, h2⟩ | ⟨_, h2⟩
    · have := Nat.le_mul_of_pos_left ((a ++ b).length + 1) (show 0 < m - n by omega)
      omega
    · omega
  have e : i + ((m - n) * ((a ++ b).length + 1) + a.length - i) = a.length + ((a ++ b).length + 1) * (m - n) := by rw [Nat.mul_comm]; rw [Nat.mul_comm] at hle; omega
  have hal : a.length < (a ++ b).length + 1 := by simp; omega
  have e1 : (i + ((m - n) * ((a ++ b).length + 1) + a.length - i)) / ((a ++ b).length + 1) = m - n := by
    rw [e, Nat.add_mul_div_left _ _ (by omega), Nat.div_eq_of_lt hal, Nat.zero_add]
  have e2 : (i + ((m - n) * ((a ++ b).length + 1) + a.length - i)) % ((a ++ b).length + 1) = a.length := by
    rw [e, Nat.add_mul_mod_self_left, Nat.mod_eq_of_lt hal]
  rw [ins, e1, e2, show n + (m - n) = m by omega, if_pos hm]
  congr 1
  simp

theorem small_step {a b : List Nat} {m n i : Nat} (hm : sca m = true) : (m - n) * ((a ++ b).length + 1) + a.length - i < many * ((a ++ b).length + 1) := by
  have h1 : m ≤ 1114111 := by unfold sca at hm; simp at hm; exact hm.1
  have h2 : (m - n) * ((a ++ b).length + 1) ≤ 1114111 * ((a ++ b).length + 1) := Nat.mul_le_mul_right _ (by omega)
  have hal : a.length < (a ++ b).length + 1 := by simp; omega
  show _ < 1114112 * _
  omega

/-- one scalar's insertions -/
theorem ins_scan (m : Nat) (hm : sca m = true) : ∀ (l2 l1 : List Nat) (n i : Nat), n ≤ m →
    (n < m ∧ i ≤ (l1.filter (· ≤ m) ++ l2.filter (· < m)).length ∨ n = m ∧ i ≤ (l1.filter (· ≤ m)).length) →
    ∃ n' i', n' ≤ m ∧ i' ≤ ((l1 ++ l2).filter (· ≤ m)).length ∧ ∀ es,
      (ins ((l1 ++ l2).filter (· ≤ m)) n' i' (dels es ((l1 ++ l2).filter (· ≤ m)).length n' i') =
        ins (l1.filter (· ≤ m) ++ l2.filter (· < m)) n i (dels (scan m l2 (l1.filter (· ≤ m)).length ++ es) (l1.filter (· ≤ m) ++ l2.filter (· < m)).length n i)) ∧
      (Small (dels es ((l1 ++ l2).filter (· ≤ m)).length n' i') ((l1 ++ l2).filter (· ≤ m)).length →
        Small (dels (scan m l2 (l1.filter (· ≤ m)).length ++ es) (l1.filter (· ≤ m) ++ l2.filter (· < m)).length n i) (l1.filter (· ≤ m) ++ l2.filter (· < m)).length)
  | [], l1, n, i, hn, h => by
    refine ⟨n, i, hn, ?_, fun es => ?_⟩
    · simp at h ⊢; omega
    · simp [scan]
  | r :: l2, l1, n, i, hn, h => by
    rcases Nat.lt_trichotomy r m with hr | hr | hr
    · -- below: it is there already
      have e1 : (r :: l2).filter (· < m) = r :: l2.filter (· < m) := by simp [hr]
      have e2 : (l1 ++ [r]).filter (· ≤ m) = l1.filter (· ≤ m) ++ [r] := by simp [Nat.le_of_lt hr]
      have e3 : scan m (r :: l2) (l1.filter (· ≤ m)).length = scan m l2 ((l1 ++ [r]).filter (· ≤ m)).length := by
        rw [scan, if_neg (by omega), if_pos (by omega), e2]; simp
      obtain ⟨n', i', g1, g2, g3⟩ := ins_scan m hm l2 (l1 ++ [r]) n i hn (by rw [e1] at h; rw [e2]; simp at h ⊢; omega)
      have e4 : l1.filter (· ≤ m) ++ (r :: l2).filter (· < m) = (l1 ++ [r]).filter (· ≤ m) ++ l2.filter (· < m) := by rw [e1, e2]; simp
      have e5 : l1 ++ r :: l2 = l1 ++ [r] ++ l2 := by simp
      refine ⟨n', i', g1, ?_, fun es => ?_⟩
      · rw [e5]; exact g2
      · rw [e5, e4, e3]; exact g3 es
    · -- it is put
      subst hr
      have e1 : (r :: l2).filter (· < r) = l2.filter (· < r) := by simp
      have e2 : (l1 ++ [r]).filter (· ≤ r) = l1.filter (· ≤ r) ++ [r] := by simp
      obtain ⟨n', i', g1, g2, g3⟩ := ins_scan r hm l2 (l1 ++ [r]) r ((l1.filter (· ≤ r)).length + 1) (Nat.le_refl _) (.inr ⟨rfl, by rw [e2]; simp⟩)
      have e4 : (l1 ++ [r]).filter (· ≤ r) ++ l2.filter (· < r) = l1.filter (· ≤ r) ++ r :: l2.filter (· < r) := by rw [e2]; simp
      have e5 : l1 ++ r :: l2 = l1 ++ [r] ++ l2 := by simp
      have e6 : scan r (r :: l2) (l1.filter (· ≤ r)).length = (r, (l1.filter (· ≤ r)).length) :: scan r l2 ((l1 ++ [r]).filter (· ≤ r)).length := by
        rw [scan, if_pos rfl, e2]; simp
      have e7 : (l1.filter (· ≤ r) ++ r :: l2.filter (· < r)).length = (l1.filter (· ≤ r) ++ l2.filter (· < r)).length + 1 := by simp; omega
      refine ⟨n', i', g1, by rw [e5]; exact g2, fun es => ?_⟩
      obtain ⟨g4, g5⟩ := g3 es
      rw [e5, e1, e6, List.cons_append, dels, ins_step hm hn (by rw [e1] at h; exact h)]
      rw [e4, e7] at g4 g5
      refine ⟨g4, fun hs => ?_⟩
      exact ⟨small_step hm, g5 hs⟩
    · -- above: not yet
      have e1 : (r :: l2).filter (· < m) = l2.filter (· < m) := by rw [List.filter_cons, if_neg (by simpa using Nat.le_of_lt hr)]
      have e2 : (l1 ++ [r]).filter (· ≤ m) = l1.filter (· ≤ m) := by rw [List.filter_append, List.filter_cons, if_neg (by simpa using hr)]; simp
      have e3 : scan m (r :: l2) (l1.filter (· ≤ m)).length = scan m l2 ((l1 ++ [r]).filter (· ≤ m)).length := by
        rw [scan, if_neg (by omega), if_neg (by omega), e2]
      obtain ⟨n', i', g1, g2, g3⟩ := ins_scan m hm l2 (l1 ++ [r]) n i hn (by rw [e1] at h; rw [e2]; exact h)
      have e5 : l1 ++ r :: l2 = l1 ++ [r] ++ l2 := by simp
      refine ⟨n', i', g1, ?_, fun es => ?_⟩
      · rw [e5]; exact g2
      · rw [e5, e1, e3, e2.symm]; exact g3 es

/-- all insertions: the row comes back -/
theorem ins_all (l : List Nat) : ∀ (rem : List Nat) (cur : List Nat) (n i : Nat), rem.Pairwise (· < ·) → (∀ x ∈ rem, sca x = true) → (∀ x ∈ l, x ∈ rem ∨ ∀ y ∈ rem, x < y) →
    cur = l.filter (fun x => decide (x ∉ rem)) → (∀ y ∈ rem, n ≤ y) → (∀ y ∈ rem, n < y ∨ i = 0) → i ≤ cur.length →
    ins cur n i (dels (rem.flatMap fun m => scan m l 0) cur.length n i) = some l ∧ Small (dels (rem.flatMap fun m => scan m l 0) cur.length n i) cur.length
  | [], cur, n, i, _, _, _, hc, _, _, _ => by
    subst hc
    simp [dels, ins, Small]
  | m :: rem, cur, n, i, hp, hsc, hl, hc, hn, hi, hic => by
    have hp' := List.pairwise_cons.1 hp
    have c1 : cur = ([] : List Nat).filter (· ≤ m) ++ l.filter (· < m) := by
      rw [hc, List.filter_nil, List.nil_append]
      refine List.filter_congr fun x hx => ?_
      rcases hl x hx with h | h
      · rcases List.mem_cons.1 h with rfl | h2
        · simp
        · have := hp'.1 x h2; simp [h]; omega
      · have h1 := h m (by simp)
        have h2 : x ∉ m :: rem := fun hh => by have := h x hh; omega
        simp [h2, h1]
    have c2 : ([] ++ l).filter (· ≤ m) = l.filter (fun x => decide (x ∉ rem)) := by
      rw [List.nil_append]
      refine List.filter_congr fun x hx => ?_
      rcases hl x hx with h | h
      · rcases List.mem_cons.1 h with rfl | h2
        · have : x ∉ rem := fun hh => by have := hp'.1 x hh; omega
          simp [this]
        · have := hp'.1 x h2; simp [h2]; omega
      · have h1 := h m (by simp)
        have h2 : x ∉ rem := fun hh => by have := h x (List.mem_cons_of_mem _ hh); omega
        simp [h2]; omega
    obtain ⟨n', i', g1, g2, g3⟩ := ins_scan m (hsc m (by simp)) l [] n i (hn m (by simp)) (by
      rw [← c1]
      rcases hi m (by simp) with h | h
      · exact .inl ⟨h, hic⟩
      · rcases Nat.lt_or_ge n m with h2 | h2
        · exact .inl ⟨h2, hic⟩
        · exact .inr ⟨by have := hn m (by simp); omega, by omega⟩)
    obtain ⟨g4, g5⟩ := g3 (rem.flatMap fun m => scan m l 0)
    have ih := ins_all l rem (([] ++ l).filter (· ≤ m)) n' i' hp'.2 (fun x hx => hsc x (by simp [hx])) (fun x hx => by
        rcases hl x hx with h | h
        · rcases List.mem_cons.1 h with rfl | h2
          · exact .inr fun y hy => hp'.1 y hy
          · exact .inl h2
        · exact .inr fun y hy => h y (by simp [hy])) c2 (fun y hy => by have := hp'.1 y hy; omega) (fun y hy => by have := hp'.1 y hy; exact .inl (by omega)) g2
    rw [List.flatMap_cons, c1]
    rw [List.filter_nil, List.length_nil] at g4 g5
    rw [List.filter_nil]
    exact ⟨g4.symm.trans ih.1, g5 ih.2⟩

theorem ins_deltas (l : List Nat) (hs : ∀ x ∈ l, sca x = true) : ins (basics l) 128 0 (deltas l) = some l ∧ Small (deltas l) (basics l).length := by
  refine ins_all l (ms l) (basics l) 128 0 (ms_rise l) (fun x hx => hs x ((ms_mem l x).1 hx).1) (fun x hx => ?_) ?_ (fun y hy => ((ms_mem l y).1 hy).2) (fun _ _ => .inr rfl) (Nat.zero_le _)
  · by_cases h : 128 ≤ x
    · exact .inl ((ms_mem l x).2 ⟨hx, h⟩)
    · exact .inr fun y hy => by have := ((ms_mem l y).1 hy).2; omega
  · unfold basics
    refine List.filter_congr fun x hx => ?_
    rw [decide_eq_decide, ms_mem]
    constructor
    · intro h1 h2; omega
    · intro h1
      rcases Nat.lt_or_ge x 128 with h2 | h2
      · exact h2
      · exact absurd ⟨hx, h2⟩ h1

/-! ### and back: what a row becomes by deltas has these deltas -/
theorem scan_append (m : Nat) : ∀ (a b : List Nat) (p : Nat), scan m (a ++ b) p = scan m a p ++ scan m b (p + (a.filter (· ≤ m)).length)
  | [], b, p => by simp [scan]
  | r :: a, b, p => by
    rw [List.cons_append, scan, scan, scan_append m a b (p + 1), scan_append m a b p]
    by_cases h1 : r = m
    · subst h1; simp; congr 1; omega
    · rw [if_neg h1, if_neg h1]
      by_cases h2 : r ≤ m
      · rw [if_pos h2, if_pos h2]; simp [h2]; congr 1; omega
      · rw [if_neg h2, if_neg h2]; simp [h2]
theorem scan_none (m : Nat) : ∀ (a : List Nat) (p : Nat), m ∉ a → scan m a p = []
  | [], _, _ => rfl
  | r :: a, p, h => by
    simp at h
    rw [scan, if_neg (fun e => h.1 e.symm)]
    split <;> exact scan_none m a _ h.2
theorem scan_past {m x : Nat} (h : m < x) (a b : List Nat) (p : Nat) : scan m (a ++ x :: b) p = scan m (a ++ b) p := by
  rw [scan_append, scan_append, scan, if_neg (by omega), if_neg (by omega)]

theorem evs_put {a b : List Nat} {x : Nat} (hx : 128 ≤ x) (ha : ∀ y ∈ a, y ≤ x) (hb : ∀ y ∈ b, y < x) : evs (a ++ x :: b) = evs (a ++ b) ++ [(x, a.length)] := by
  have hlast : scan x (a ++ x :: b) 0 = scan x (a ++ b) 0 ++ [(x, a.length)] := by
    have e : (a.filter (· ≤ x)).length = a.length := by
      rw [List.filter_eq_self.2 (fun y hy => by simpa using ha y hy)]
    have hnb : x ∉ b := fun hh => by have := hb x hh; omega
    rw [scan_append, scan_append, e, scan_none x b _ hnb, scan, if_pos rfl, scan_none x b _ hnb]
    simp
  have key : ∀ rem : List Nat, (∀ y ∈ rem, y < x) → (rem.flatMap fun m => scan m (a ++ x :: b) 0) = rem.flatMap fun m => scan m (a ++ b) 0 := by
    intro rem hrem
    induction rem with
    | nil => rfl
    | cons m rem ih =>
      rw [List.flatMap_cons, List.flatMap_cons, ih (fun y hy => hrem y (by simp [hy])), scan_past (hrem m (by simp))]
  by_cases hin : x ∈ a
  · have hms : ms (a ++ x :: b) = ms (a ++ b) := rise_ext _ _ (ms_rise _) (ms_rise _) fun z => by
      rw [ms_mem, ms_mem]; simp
      intro _
      constructor
      · rintro (h | rfl | h)
        · exact .inl h
        · exact .inl hin
        · exact .inr h
      · rintro (h | h)
        · exact .inl h
        · exact .inr (.inr h)
    have hxm : x ∈ ms (a ++ b) := (ms_mem _ _).2 ⟨by simp [hin], hx⟩
    have hr := ms_rise (a ++ b)
    -- x is the last one
    obtain ⟨s, t, hst⟩ := List.append_of_mem hxm
    have ht : t = [] := by
      cases t with
      | nil => rfl
      | cons y t =>
        rw [hst, List.pairwise_append] at hr
        have h1 : x < y := (List.pairwise_cons.1 hr.2.1).1 y (by simp)
        have h2 : y ∈ ms (a ++ b) := by rw [hst]; simp
        have h3 := ((ms_mem _ _).1 h2).1
        rcases List.mem_append.1 h3 with h | h
        · have := ha y h; omega
        · have := hb y h; omega
    subst ht
    have hs : ∀ y ∈ s, y < x := fun y hy => by
      rw [hst, List.pairwise_append] at hr
      exact hr.2.2 y hy x (by simp)
    unfold evs
    rw [hms, hst, List.flatMap_append, List.flatMap_append, key s hs]
    simp only [List.flatMap_cons, List.flatMap_nil, List.append_nil]
    rw [hlast]; simp
  · have hlt : ∀ y ∈ a ++ b, y < x := fun y hy => by
      rcases List.mem_append.1 hy with h | h
      · have := ha y h
        have : y ≠ x := fun e => hin (e ▸ h)
        omega
      · exact hb y h
    have hms : ms (a ++ x :: b) = ms (a ++ b) ++ [x] := rise_ext _ _ (ms_rise _) (by
        rw [List.pairwise_append]
        refine ⟨ms_rise _, by simp, fun y hy z hz => ?_⟩
        simp at hz; subst hz
        exact hlt y ((ms_mem _ _).1 hy).1) fun z => by
      rw [List.mem_append, ms_mem, ms_mem]
      simp
      constructor
      · rintro ⟨h | rfl | h, h2⟩
        · exact .inl ⟨.inl h, h2⟩
        · exact .inr rfl
        · exact .inl ⟨.inr h, h2⟩
      · rintro (⟨h | h, h2⟩ | rfl)
        · exact ⟨.inl h, h2⟩
        · exact ⟨.inr (.inr h), h2⟩
        · exact ⟨.inr (.inl rfl), hx⟩
    unfold evs
    rw [hms, List.flatMap_append, key _ (fun y hy => hlt y ((ms_mem _ _).1 hy).1)]
    simp only [List.flatMap_cons, List.flatMap_nil, List.append_nil]
    rw [hlast, scan_none x (a ++ b) 0 (fun hh => by have := hlt x hh; omega)]
    simp

/-- where insertions have led -/
def fin : List (Nat × Nat) → Nat → Nat → Nat × Nat
  | [], n, i => (n, i)
  | (m, p) :: es, _, _ => fin es m (p + 1)
theorem dels_snoc : ∀ (es : List (Nat × Nat)) (h n i m p : Nat), dels (es ++ [(m, p)]) h n i = dels es h n i ++ [(m - (fin es n i).1) * (h + es.length + 1) + p - (fin es n i).2]
  | [], h, n, i, m, p => by simp [dels, fin]
  | (a, b) :: es, h, n, i, m, p => by
    rw [List.cons_append, dels, dels, dels_snoc es (h + 1) a (b + 1) m p, fin]
    simp
    congr 3
    omega
theorem fin_snoc : ∀ (es : List (Nat × Nat)) (n i m p : Nat), fin (es ++ [(m, p)]) n i = (m, p + 1)
  | [], n, i, m, p => rfl
  | (a, b) :: es, n, i, m, p => by rw [List.cons_append, fin, fin_snoc]

theorem ins_back : ∀ (ds out r : List Nat) (n i : Nat) (pre : List Nat), ins out n i ds = some r → 128 ≤ n → i ≤ out.length → (∀ x ∈ out, x ≤ n) → n ∉ out.drop i → (∀ x ∈ out, sca x = true) →
    fin (evs out) 128 0 = (n, i) → (basics out).length + (evs out).length = out.length → deltas out = pre →
    deltas r = pre ++ ds ∧ basics r = basics out ∧ (∀ x ∈ r, sca x = true) ∧ r.length = out.length + ds.length
  | [], out, r, n, i, pre, h, _, _, _, _, hs, _, _, hd => by
    injection h with h
    subst h
    exact ⟨by simp [hd], rfl, hs, by simp⟩
  | d :: ds, out, r, n, i, pre, h, hn, hi, hle, hni, hs, hf, hlen, hd => by
    rw [ins] at h
    split at h
    · rename_i hsc
      obtain ⟨N, hN⟩ : ∃ N, n + (i + d) / (out.length + 1) = N := ⟨_, rfl⟩
      obtain ⟨p, hp⟩ : ∃ p, (i + d) % (out.length + 1) = p := ⟨_, rfl⟩
      have hpl : p < out.length + 1 := by rw [← hp]; exact Nat.mod_lt _ (by omega)
      have hdm := Nat.div_add_mod (i + d) (out.length + 1)
      rw [hp] at h hdm
      rw [hN] at h hsc
      have hnN : n ≤ N := by rw [← hN]; exact Nat.le_add_right _ _
      have hdrop : ∀ y ∈ out.drop p, y < N := by
        intro y hy
        have h1 := hle y (List.mem_of_mem_drop hy)
        rcases Nat.lt_or_ge n N with h2 | h2
        · omega
        · have e : N = n := by omega
          have hq : (i + d) / (out.length + 1) = 0 := by omega
          rw [hq, Nat.mul_zero, Nat.zero_add] at hdm
          have hip : i ≤ p := by omega
          have : y ∈ out.drop i := by
            rw [show p = i + (p - i) by omega, ← List.drop_drop] at hy
            exact List.mem_of_mem_drop hy
          have : y ≠ n := fun e2 => hni (e2 ▸ this)
          omega
      have htake : ∀ y ∈ out.take p, y ≤ N := fun y hy => by have := hle y (List.mem_of_mem_take hy); omega
      have hev := evs_put (x := N) (by omega) htake hdrop
      have hpt : (out.take p).length = p := by rw [List.length_take]; omega
      rw [List.take_append_drop, hpt] at hev
      have hb : basics (out.take p ++ N :: out.drop p) = basics out := by
        unfold basics
        rw [List.filter_append, List.filter_cons, if_neg (by simp; omega), ← List.filter_append, List.take_append_drop]
      have hL : (out.take p ++ N :: out.drop p).length = out.length + 1 := by rw [List.length_append, List.length_cons, List.length_drop, hpt]; omega
      have hnew : deltas (out.take p ++ N :: out.drop p) = pre ++ [d] := by
        unfold deltas at hd ⊢
        rw [hev, hb, dels_snoc, hd, hf]
        congr 2
        rw [show (basics out).length + (evs out).length + 1 = out.length + 1 by omega]
        simp only
        rw [show N - n = (i + d) / (out.length + 1) by omega, Nat.mul_comm]
        omega
      obtain ⟨j1, j2, j3, j4⟩ := ins_back ds _ r N (p + 1) (pre ++ [d]) h (by omega) (by omega) (fun x hx => by
          rcases List.mem_append.1 hx with hx | hx
          · exact htake x hx
          · rcases List.mem_cons.1 hx with rfl | hx
            · exact Nat.le_refl _
            · have := hdrop x hx; omega) (by
          rw [List.drop_append, hpt, List.drop_of_length_le (by rw [hpt]; omega), List.nil_append, show p + 1 - p = 1 by omega, List.drop_succ_cons, List.drop_zero]
          intro hh
          have := hdrop N hh; omega) (fun x hx => by
          rcases List.mem_append.1 hx with hx | hx
          · exact hs x (List.mem_of_mem_take hx)
          · rcases List.mem_cons.1 hx with rfl | hx
            · exact hsc
            · exact hs x (List.mem_of_mem_drop hx)) (by rw [hev, fin_snoc]) (by rw [hb, hev, hL, List.length_append]; simp; omega) hnew
      refine ⟨by rw [j1]; simp, j2.trans hb, j3, ?_⟩
      rw [j4, hL]; simp; omega
    · cases h

theorem ms_basic (out : List Nat) (h : ∀ x ∈ out, x < 128) : ms out = [] := by
  cases hm : ms out with
  | nil => rfl
  | cons y t =>
    have := (ms_mem out y).1 (by rw [hm]; simp)
    have := h y this.1
    omega

theorem deltas_ins {b r ds : List Nat} (hb : ∀ x ∈ b, x < 128) (h : ins b 128 0 ds = some r) : deltas r = ds ∧ basics r = b ∧ (∀ x ∈ r, sca x = true) ∧ r.length = b.length + ds.length := by
  have hm := ms_basic b hb
  have he : evs b = [] := by unfold evs; rw [hm]; rfl
  have hbb : basics b = b := List.filter_eq_self.2 fun x hx => by simpa using hb x hx
  obtain ⟨h1, h2, h3, h4⟩ := ins_back ds b r 128 0 [] h (Nat.le_refl _) (Nat.zero_le _) (fun x hx => by have := hb x hx; omega) (fun hh => by have := hb 128 (List.mem_of_mem_drop hh); omega)
    (fun x hx => by have := hb x hx; unfold sca; simp; omega) (by rw [he]; rfl) (by rw [he, hbb]; simp) (by unfold deltas; rw [he]; rfl)
  exact ⟨by simpa using h1, by rw [h2, hbb], h3, h4⟩

end Puny
