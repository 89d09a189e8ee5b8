/-
  fascialaw10.MixedDigits: an append that leaves the old row as it was; digits as mathematics.
-/
import Derived.Test.YtjpmecdjlodaoaaDoorMixH
import Derived.Maps.AppendAt
namespace Go.Proofs.YtjpmecdjlodaoaaDoor.Mix
open Go.RowKit Ucd Rul

theorem info_int32 : (Tryd.prog.info? 21).map (fun i => (i.zero, i.size, i.bytes)) = some (some (.int .i32 0), 1, 4) := by kernel_rfl
theorem cl32_app (a b : List Int) : cl .i32 (a ++ b) = cl .i32 a ++ cl .i32 b := by simp [cl]
/-- an append that grows: the old row is as it was, too -/
theorem run_keep (w : World) (base : Nat) (v : Value) (n : Nat) (xs : List Int) (hown : w.ownsRow base 21 1 v n (cl .i32 xs)) (a : Addr) (m c : Nat) (news : List Int) (hl : news.length = m)
    (hnews : ∀ j u, (cl .i32 news)[j]? = some u → w.cell? (a.add j) = some u) (h63 : n + m ≤ 100000) (hbase : base ≤ w.heap.size) (ty : TypeId) :
    ∃ v' w', (Builtin.append_ #[22, 22] ty #[v, .slice (some a) m c]).run Tryd.prog w = .ok v' w' ∧ w'.ownsRow base 21 1 v' (n + m) (cl .i32 (xs ++ news)) ∧ w.grownBy w' v.ownBlock ∧ w'.ownsRow base 21 1 v n (cl .i32 xs) := by
  obtain ⟨i0, hi, hz0, hz1, hz2⟩ := info_split info_int32
  have hcn : (cl .i32 news).length = m * 1 := by rw [Nat.mul_one, List.length_map, hl]
  obtain ⟨v', w', hr, h2, h3, _, _⟩ := run_append_own_at (P := Tryd.prog) w base 22 ty 21 i0 (.int .i32 0) 1 4 Tryd.underlying22 hi hz0 hz1 hz2 rfl (Nat.zero_lt_succ 0) v n (cl .i32 xs) hown a m c (cl .i32 news) hcn hnews (one_cl _ _) (by unfold maxLen; omega) (by omega) hbase
  rw [← cl32_app] at h2
  refine ⟨v', w', hr, h2, h3, ?_⟩
  rcases hown.2 with ⟨rfl, rfl⟩ | ⟨g, cap, cur, rfl, hbg, hg, hnc, hcm, hcs, htake⟩
  · exact ⟨hown.1, .inl ⟨rfl, rfl⟩⟩
  · have hlx : (cl .i32 xs).length = n * 1 := hown.1
    by_cases hroom : n + m ≤ cap
    · have hr2 := run_append_room (P := Tryd.prog) w 22 ty 21 i0 Tryd.underlying22 hi g n cap cur hg a m c (cl .i32 news) (by rw [hz1]; exact hcn) hnews (one_cl _ _) hroom (by rw [hz1, hcn, hcs]; omega)
      rw [hr] at hr2
      injection hr2 with e1 e2
      rw [e2]
      refine ⟨hown.1, .inr ⟨g, cap, _, rfl, hbg, setRow_heap w g cur _ _ _ hg, hnc, hcm, ?_, ?_⟩⟩
      · rw [hz1, List.size_toArray, List.length_append, List.length_append, List.length_take, List.length_drop, Array.length_toList, hcs, hcn]
        omega
      · rw [hz1, htake, List.append_assoc, ← hlx, List.take_left]
    · have hr2 := run_append_grow (P := Tryd.prog) w 22 ty 21 i0 (.int .i32 0) Tryd.underlying22 hi hz0 ⟨g, 0, none⟩ n cap (cl .i32 xs) (by rw [hz1]; exact hlx) (hown.cells (g := g) rfl) a m c (cl .i32 news) (by rw [hz1]; exact hcn) hnews (by omega) (by omega) (growslice_fits (by omega) (by rw [hz2]; omega))
      rw [hr] at hr2
      injection hr2 with e1 e2
      rw [e2]
      have hgl : g < w.heap.size := (Array.getElem?_eq_some_iff.1 hg).1
      exact ⟨hown.1, .inr ⟨g, cap, cur, rfl, hbg, (heap_alloc_old w.drew _ hgl).trans hg, hnc, hcm, hcs, htake⟩⟩
/-- append(s, x...), where what is appended has just been laid; also behind a guard that is met -/
theorem app_keep {ops : Array Oper} {rest : List Oper} {o : Oper} {a : Act} {Q : Exit → Act → World → Prop} (B : Nat) (W : World) (s x : Operand)
    (ho : o.op = .call { callee := .builtin .append, args := #[s, x], argTypes := #[22, 22] })
    (v : Value) (n m k : Nat) (xs news : List Int) (hs : a.eval s = v) (hown : W.ownsRow B 21 1 v n (cl .i32 xs)) (hB : B ≤ W.heap.size)
    (hx : a.eval x = .slice (some ⟨W.heap.size, 0, none⟩) k k) (hk : news.length = k) (hm : n + k = m) (hm2 : m ≤ 100000) (hgd : Region.wanted o (yielded ops a.tmps) = true)
    (h : ∀ A' c' w', w'.ownsRow B 21 1 (.slice A' m c') m (cl .i32 (xs ++ news)) → w'.ownsRow B 21 1 v n (cl .i32 xs) → Below B W w' → wpList Tryd.prog ops Q rest (a.put o.dst (.slice A' m c')) w') :
    wpList Tryd.prog ops Q (o :: rest) a (W.alloc (.cells (cl .i32 news).toArray 21)) := by
  subst hm
  refine wpList_step fun K hK => ?_
  obtain ⟨v', w', hr, h2, h3, h4⟩ := run_keep (W.alloc (.cells (cl .i32 news).toArray 21)) B v n xs (hown.alloc _) ⟨W.heap.size, 0, none⟩ k k news hk (news_new _ _ _ _ rfl) hm2 (by rw [World.size_alloc]; omega) o.type
  obtain ⟨A', c', rfl, _, _⟩ := own_form h2
  simp only [hgd, if_true]
  unfold Oper.wp execOp
  simp only [ho, resolve, invoke, builtin, Sem.run_bind, Sem.run_pure, Result.andThen_ok, List.map_toArray, List.map_cons, List.map_nil, hs, hx, hr]
  exact hK _ _ (h A' c' w' h2 h4 (((Below.refl B W).alloc hB _).grown h3 (by rw [World.size_alloc]; omega) (fun j e => (hown.lt j e).1)))

/-! Digits of two systems, by turns. -/
def fs (s : Int) : Int := [48, 1632, 1776, 2406, 65296][s.toNat]!
def cs (s : Int) : Int := [0, 6, 6, 7, 0][s.toNat]!
def sy (A B : Int) (i : Nat) : Int := if i % 2 = 0 then A else B
def el (A B : Int) (ps : List Int) (i : Nat) : Int := fs (sy A B i) + ps[i]! % 10
def dl (A B : Int) (ps : List Int) (k : Nat) : List Int := (List.range k).map (el A B ps)
theorem dl_len (A B : Int) (ps : List Int) (k : Nat) : (dl A B ps k).length = k := by simp [dl]
theorem dl_succ (A B : Int) (ps : List Int) (k : Nat) : dl A B ps (k + 1) = dl A B ps k ++ [el A B ps k] := by
  unfold dl; rw [List.range_succ, List.map_append]; rfl
theorem fs_tab : ∀ s : Nat, s < 5 → ∀ d : Nat, d < 10 → dg (fs (s : Int) + (d : Int)) = (s : Int) + 1 ∧ sc (fs (s : Int) + (d : Int)) = cs (s : Int) ∧ 0 ≤ fs (s : Int) + (d : Int) ∧ fs (s : Int) + (d : Int) < 70000 ∧ (0 < s → 128 ≤ fs (s : Int) + (d : Int)) := by decide +kernel
theorem fs_at {s d : Int} (hs : 0 ≤ s ∧ s < 5) (hd : 0 ≤ d ∧ d < 10) : dg (fs s + d) = s + 1 ∧ sc (fs s + d) = cs s ∧ 0 ≤ fs s + d ∧ fs s + d < 70000 ∧ (0 < s → 128 ≤ fs s + d) := by
  obtain ⟨x, rfl⟩ : ∃ x : Nat, s = (x : Int) := ⟨s.toNat, by omega⟩
  obtain ⟨y, rfl⟩ : ∃ y : Nat, d = (y : Int) := ⟨d.toNat, by omega⟩
  have := fs_tab x (by omega) y (by omega)
  exact ⟨this.1, this.2.1, this.2.2.1, this.2.2.2.1, fun h => this.2.2.2.2 (by omega)⟩
theorem sy_bd {A B : Int} (hA : 0 ≤ A ∧ A < 5) (hB : 0 ≤ B ∧ B < 5) (i : Nat) : 0 ≤ sy A B i ∧ sy A B i < 5 := by
  unfold sy; split <;> assumption
theorem el_at {A B : Int} (hA : 0 ≤ A ∧ A < 5) (hB : 0 ≤ B ∧ B < 5) (ps : List Int) (i : Nat) : dg (el A B ps i) = sy A B i + 1 ∧ sc (el A B ps i) = cs (sy A B i) ∧ (0 < sy A B i → 128 ≤ el A B ps i) := by
  have := fs_at (sy_bd hA hB i) (d := ps[i]! % 10) (by omega)
  exact ⟨this.1, this.2.1, this.2.2.2.2⟩
theorem dl_mem {A B : Int} {ps : List Int} {k : Nat} {r : Int} : r ∈ dl A B ps k ↔ ∃ i, i < k ∧ el A B ps i = r := by
  unfold dl
  rw [List.mem_map]
  constructor
  · rintro ⟨i, hi, e⟩; exact ⟨i, List.mem_range.1 hi, e⟩
  · rintro ⟨i, hi, e⟩; exact ⟨i, List.mem_range.2 hi, e⟩
def wnt (A B : Int) (k : Nat) : Bool := decide (k < 2) || decide (A = B)
theorem dgs_dl {A B : Int} (hA : 0 ≤ A ∧ A < 5) (hB : 0 ≤ B ∧ B < 5) (ps : List Int) (k : Nat) : dgs (dl A B ps k) = wnt A B k := by
  unfold wnt
  rw [Bool.eq_iff_iff, dgs_iff, Bool.or_eq_true, decide_eq_true_eq, decide_eq_true_eq]
  constructor
  · intro h
    by_cases hk : k < 2
    · exact .inl hk
    · have h0 := (el_at hA hB ps 0).1
      have h1 := (el_at hA hB ps 1).1
      have := h _ (dl_mem.2 ⟨0, by omega, rfl⟩) _ (dl_mem.2 ⟨1, by omega, rfl⟩)
      rw [h0, h1] at this
      have e0 : sy A B 0 = A := rfl
      have e1 : sy A B 1 = B := rfl
      rw [e0, e1] at this
      omega
  · rintro h a ha b hb
    obtain ⟨i, hi, rfl⟩ := dl_mem.1 ha
    obtain ⟨j, hj, rfl⟩ := dl_mem.1 hb
    rw [(el_at hA hB ps i).1, (el_at hA hB ps j).1]
    refine .inr (.inr ?_)
    rcases h with h | h
    · have : i = j := by omega
      rw [this]
    · subst h
      have e : ∀ i, sy A A i = A := fun i => by unfold sy; split <;> rfl
      rw [e, e]
theorem dgs_more {l t : List Int} (ht : ∀ a ∈ t, dg a = 0) : dgs (l ++ t) = dgs l := by
  rw [Bool.eq_iff_iff, dgs_iff, dgs_iff]
  constructor
  · intro h a ha b hb
    exact h a (List.mem_append_left _ ha) b (List.mem_append_left _ hb)
  · intro h a ha b hb
    rcases List.mem_append.1 ha with ha | ha
    · rcases List.mem_append.1 hb with hb | hb
      · exact h a ha b hb
      · exact .inr (.inl (ht b hb))
    · exact .inl (ht a ha)
theorem dg_two : ∀ a ∈ [(97 : Int), 1072], dg a = 0 := by decide +kernel
def crs (A B : Int) : Bool := ((A == 1 || A == 2) && B == 3) || ((B == 1 || B == 2) && A == 3)
theorem crs_tab : ∀ a : Nat, a < 5 → (∀ b : Nat, b < 5 → (lv2 (cs (a : Int)) (cs (b : Int)) = 4 ↔ crs (a : Int) (b : Int) = true)) ∧ crs (a : Int) (a : Int) = false := by decide +kernel
theorem crs_at {A B : Int} (hA : 0 ≤ A ∧ A < 5) (hB : 0 ≤ B ∧ B < 5) : (lv2 (cs A) (cs B) = 4 ↔ crs A B = true) ∧ crs A A = false := by
  obtain ⟨x, rfl⟩ : ∃ x : Nat, A = (x : Int) := ⟨A.toNat, by omega⟩
  obtain ⟨y, rfl⟩ : ∃ y : Nat, B = (y : Int) := ⟨B.toNat, by omega⟩
  exact ⟨(crs_tab x (by omega)).1 y (by omega), (crs_tab x (by omega)).2⟩
theorem cs_bd {A : Int} (hA : 0 ≤ A ∧ A < 5) : 0 ≤ cs A ∧ cs A ≤ 11 := by
  have := (fs_at hA (d := 0) (by omega)).2.1
  rw [← this]
  exact sc_bd _
theorem lv_dl {A B : Int} (hA : 0 ≤ A ∧ A < 5) (hB : 0 ≤ B ∧ B < 5) (ps : List Int) {k : Nat} (hk : 0 < k) : lv (sb (dl A B ps k)) = lv2 (cs A) (cs (if 2 ≤ k then B else A)) := by
  have hq : 0 ≤ (if 2 ≤ k then B else A) ∧ (if 2 ≤ k then B else A) < 5 := by split <;> assumption
  rw [← lv2_eq (cs_bd hA) (cs_bd hq)]
  refine lv_congr fun s _ => ?_
  unfold sb pset
  congr 1
  rw [Bool.eq_iff_iff, List.any_eq_true, Bool.or_eq_true, beq_iff_eq, beq_iff_eq]
  constructor
  · rintro ⟨r, hr, e⟩
    obtain ⟨i, hi, rfl⟩ := dl_mem.1 hr
    rw [beq_iff_eq, (el_at hA hB ps i).2.1] at e
    unfold sy at e
    by_cases h : i % 2 = 0
    · rw [if_pos h] at e; exact .inl e
    · rw [if_neg h] at e
      rw [if_pos (by omega)]
      exact .inr e
  · rintro (e | e)
    · refine ⟨_, dl_mem.2 ⟨0, hk, rfl⟩, ?_⟩
      rw [beq_iff_eq, (el_at hA hB ps 0).2.1]
      exact e
    · by_cases h : 2 ≤ k
      · rw [if_pos h] at e
        refine ⟨_, dl_mem.2 ⟨1, by omega, rfl⟩, ?_⟩
        rw [beq_iff_eq, (el_at hA hB ps 1).2.1]
        exact e
      · rw [if_neg h] at e
        refine ⟨_, dl_mem.2 ⟨0, hk, rfl⟩, ?_⟩
        rw [beq_iff_eq, (el_at hA hB ps 0).2.1]
        exact e
theorem lev_dl {A B : Int} (hA : 0 ≤ A ∧ A < 5) (hB : 0 ≤ B ∧ B < 5) (ps : List Int) (k : Nat) : lev (dl A B ps k) = 4 ↔ 2 ≤ k ∧ crs A B = true := by
  unfold lev
  constructor
  · intro h
    split at h
    · cases h
    · rename_i ha
      have hk : 0 < k := by
        rcases Nat.eq_zero_or_pos k with h0 | h0
        · subst h0; exact absurd rfl ha
        · exact h0
      rw [lv_dl hA hB ps hk] at h
      by_cases h2 : 2 ≤ k
      · rw [if_pos h2] at h
        exact ⟨h2, (crs_at hA hB).1.1 h⟩
      · rw [if_neg h2] at h
        have := (crs_at hA hA).1.1 h
        rw [(crs_at hA hA).2] at this
        cases this
  · rintro ⟨h2, hc⟩
    have ha : ¬ asc (dl A B ps k) = true := fun h => by
      unfold asc at h
      rw [List.all_eq_true] at h
      have h0 := h _ (dl_mem.2 ⟨0, by omega, rfl⟩)
      rw [Bool.and_eq_true, decide_eq_true_eq, decide_eq_true_eq] at h0
      have hp : 0 < A := by
        unfold crs at hc
        simp only [Bool.or_eq_true, Bool.and_eq_true, beq_iff_eq] at hc
        omega
      have := (el_at hA hB ps 0).2.2 hp
      omega
    rw [if_neg ha, lv_dl hA hB ps (by omega), if_pos h2]
    exact (crs_at hA hB).1.2 hc
theorem chk_dl {A B : Int} (hA : 0 ≤ A ∧ A < 5) (hB : 0 ≤ B ∧ B < 5) (ps : List Int) (k : Nat) : Mix.chk (dl A B ps k) = if (decide (2 ≤ k) && crs A B) = true then 13 else if wnt A B k = true then 0 else 14 := by
  unfold Mix.chk
  by_cases h : 2 ≤ k ∧ crs A B = true
  · rw [if_pos ((lev_dl hA hB ps k).2 h), if_pos (by rw [decide_eq_true h.1, h.2]; rfl)]
  · have hn : ¬ (decide (2 ≤ k) && crs A B) = true := fun e => h (by rw [Bool.and_eq_true, decide_eq_true_eq] at e; exact e)
    rw [if_neg (fun e => h ((lev_dl hA hB ps k).1 e)), dgs_dl hA hB, if_neg hn]
    cases wnt A B k <;> rfl
end Go.Proofs.YtjpmecdjlodaoaaDoor.Mix
