/-
  The contract of slices.Insert at []rune, of one code point into a row of the call's own.
-/
import Derived.Test.YtcdjjodiiaahfaaPunyJ
import Derived.Shelf.Spec.SlicesInsertGrow
import Derived.Laws.CopyRow
import Derived.Deep.RegionLaw
namespace Go.Proofs.Ytcdjjodiiaahfaa
open Go.RowKit Go.Shelf Puny

theorem info_i32s : (Try.prog.info? 21).map (·.size) = some 1 := by kernel_rfl

/-- the row with x at place i -/
def put (l : List Nat) (i x : Nat) : List Nat := l.take i ++ x :: l.drop i
theorem put_end (l : List Nat) (x : Nat) : put l l.length x = l ++ [x] := by simp [put]
theorem cn_put (l : List Nat) (i x : Nat) : cn (put l i x) = (cn l).take i ++ .int .i32 (x : Int) :: (cn l).drop i := by simp [put, List.map_take, List.map_drop]
theorem put_len {l : List Nat} {i : Nat} (x : Nat) (h : i ≤ l.length) : (put l i x).length = l.length + 1 := by unfold put; simp; omega

def Inserted (base : Nat) (v : Value) (l : List Nat) (i x : Nat) (w : World) (e : Ending) (w' : World) : Prop :=
  ∃ v', e = .returned v' ∧ w'.ownsRow base 21 1 v' (l.length + 1) (cn (put l i x)) ∧ Grew w v w' v'

set_option maxRecDepth 100000 in
set_option maxHeartbeats 2000000 in
theorem Insert_end (base : Nat) (v : Value) (l : List Nat) (x vb : Nat) (w : World) (hown : w.ownsRow base 21 1 v l.length (cn l)) (hl : l.length ≤ 1000000) (hb : base ≤ w.heap.size)
    (hv : w.heap[vb]? = some (.cells #[.int .i32 (x : Int)] 21 (0, 0))) :
    Calls Try.prog 33 #[v, .int .i64 l.length, .slice (some ⟨vb, 0, none⟩) 1 1] w (Inserted base v l l.length x w) := by
  obtain ⟨i0, hi, hz0, hz1, hz2⟩ := info_parts info_i32
  obtain ⟨A, c, rfl⟩ := own_slice hown
  have hnw : ∀ j u, [Value.int .i32 (x : Int)][j]? = some u → w.cell? ((⟨vb, 0, none⟩ : Addr).add j) = some u := by
    intro j u hj
    rw [Go.WideShapes.add_plain, Nat.zero_add, cell_of_row _ _ _ _ _ (0, 0) hv, ← hj]
    simp
  have hnc : l.length ≤ c := by
    rcases hown.2 with ⟨h, h0⟩ | ⟨_, _, _, h, _, _, h2, _⟩
    · omega
    · cases h; exact h2
  have hc2 : c ≤ maxLen := by
    rcases hown.2 with ⟨h, h0⟩ | ⟨_, _, _, h, _, _, _, h2, _⟩
    · obtain rfl : c = 0 := by injection h
      exact Nat.zero_le _
    · cases h; exact h2
  unfold maxLen at hc2
  have HL := Lib.hid (put_end l x)
  obtain ⟨m, hm⟩ : ∃ m, l.length = m := ⟨_, rfl⟩
  have HM := Lib.hid hm
  rw [hm] at hown hl hnc HL ⊢
  clear hm
  by_cases hcm : c = m
  · go_enter Try.func33, Try.ntmps33
    go_wp2_with (at_builtin; refine wpList_append_own_at _ rfl _ _ 22 rfl base 21 i0 (.int .i32 0) 1 4 Try.underlying22 hi hz0 hz1 hz2 rfl (by decide) _ _ _ rfl hown ⟨vb, 0, none⟩ 1 1 [.int .i32 (x : Int)] rfl (by rfl) hnw (by simp [Value.oneCell']) (by unfold maxLen; omega) (by omega) hb ?_; intro v' w2 hown2 hgrow2 _ hblk2)
    all_goals
      go_ret
      exact ⟨_, rfl, by rw [HM.out, HL.out]; simpa using hown2, (Grew.refl w _).step hgrow2 (hblk2.imp_right fun e => ⟨_, e, Nat.le_refl _⟩)⟩
  · go_enter Try.func33, Try.ntmps33
    go_wp2_with (at_builtin; refine wpList_append_own_at _ rfl _ _ 22 rfl base 21 i0 (.int .i32 0) 1 4 Try.underlying22 hi hz0 hz1 hz2 rfl (by decide) _ _ _ rfl hown ⟨vb, 0, none⟩ 1 1 [.int .i32 (x : Int)] rfl (by rfl) hnw (by simp [Value.oneCell']) (by unfold maxLen; omega) (by omega) hb ?_; intro v' w2 hown2 hgrow2 _ hblk2)
    all_goals
      go_ret
      exact ⟨_, rfl, by rw [HM.out, HL.out]; simpa using hown2, (Grew.refl w _).step hgrow2 (hblk2.imp_right fun e => ⟨_, e, Nat.le_refl _⟩)⟩

theorem heap_setRow {w : World} {g : Nat} {cur cs : Array Value} {t : TypeId} (h : w.heap[g]? = some (.cells cur t (0, 0))) : (w.setRow g cs).heap[g]? = some (.cells cs t (0, 0)) := by
  simp [World.setRow, Array.getElem?_modify, h]
theorem grown_setRow (w : World) (g : Nat) (cs : Array Value) : w.grownBy (w.setRow g cs) (some g) := by
  refine ⟨rfl, rfl, rfl, by simp [World.setRow], fun j hj hn => ?_⟩
  simp [World.setRow, Array.getElem?_modify]
  intro e; exact absurd (by rw [e]) hn
theorem heap_setRow_ne {w : World} {g j : Nat} {cs : Array Value} (h : j ≠ g) : (w.setRow g cs).heap[j]? = w.heap[j]? := by
  simp [World.setRow, Array.getElem?_modify]
  intro e; exact absurd e.symm h
theorem cell_drop {w : World} {g i : Nat} {cur : Array Value} {t : TypeId} {xs : List Value} (h : w.heap[g]? = some (.cells cur t (0, 0))) (ht : cur.toList.take xs.length = xs) :
    ∀ j v, (xs.drop i)[j]? = some v → w.cell? ((⟨g, i, none⟩ : Addr).add j) = some v := by
  intro j v hj
  rw [List.getElem?_drop] at hj
  have hlt : i + j < xs.length := (List.getElem?_eq_some_iff.1 hj).1
  have h2 := congrArg (fun L => L[i + j]?) ht
  simp only [List.getElem?_take_of_lt hlt] at h2
  rw [Go.WideShapes.add_plain, cell_of_row _ _ _ _ _ (0, 0) h, ← Array.getElem?_toList, h2]
  exact hj
theorem cell_one {w : World} {vb : Nat} {x : Value} {t : TypeId} (h : w.heap[vb]? = some (.cells #[x] t (0, 0))) : ∀ j u, [x][j]? = some u → w.cell? ((⟨vb, 0, none⟩ : Addr).add j) = some u := by
  intro j u hj
  rw [Go.WideShapes.add_plain, Nat.zero_add, cell_of_row _ _ _ _ _ (0, 0) h, ← hj]
  simp
/-- the cells behind the two copies -/
theorem two_copies {cur : List Value} {xs : List Value} {i : Nat} {x : Value} (hi : i < xs.length) (hc : xs.length + 1 ≤ cur.length) (ht : cur.take i = xs.take i) :
    let c1 := cur.take (i + 1) ++ xs.drop i ++ cur.drop (i + 1 + (xs.drop i).length)
    (c1.take i ++ [x] ++ c1.drop (i + 1)).take (xs.length + 1) = xs.take i ++ x :: xs.drop i := by
  intro c1
  have h1 : c1.take i = xs.take i := by
    show (cur.take (i + 1) ++ xs.drop i ++ _).take i = _
    rw [List.append_assoc, List.take_append_of_le_length (by rw [List.length_take]; omega), List.take_take, Nat.min_eq_left (by omega), ht]
  have h2 : c1.drop (i + 1) = xs.drop i ++ cur.drop (i + 1 + (xs.drop i).length) := by
    show (cur.take (i + 1) ++ xs.drop i ++ _).drop (i + 1) = _
    rw [List.append_assoc, List.drop_append, List.drop_of_length_le (by rw [List.length_take]; omega), List.length_take, Nat.min_eq_left (by omega), Nat.sub_self, List.drop_zero, List.nil_append]
  rw [h1, h2]
  have e : xs.take i ++ [x] ++ (xs.drop i ++ cur.drop (i + 1 + (xs.drop i).length)) = (xs.take i ++ x :: xs.drop i) ++ cur.drop (i + 1 + (xs.drop i).length) := by simp
  rw [e, List.take_append_of_le_length (by simp; omega), List.take_of_length_le (by simp; omega)]

theorem two_copies2 {row xs : List Value} {i : Nat} {x : Value} (hi : i < xs.length) (hc : i < row.length) (ht : row.take i = xs.take i) :
    ((row.take i ++ [x] ++ row.drop (i + 1)).take (i + 1) ++ xs.drop i ++ (row.take i ++ [x] ++ row.drop (i + 1)).drop (i + 1 + (xs.drop i).length)).take (xs.length + 1) = xs.take i ++ x :: xs.drop i := by
  have h1 : (row.take i ++ [x] ++ row.drop (i + 1)).take (i + 1) = xs.take i ++ [x] := by
    rw [List.take_append_of_le_length (by simp; omega), List.take_of_length_le (by simp; omega), ht]
  rw [h1, List.take_append_of_le_length (by simp; omega), List.take_of_length_le (by simp; omega)]
  simp

theorem ins_mk {base g' c' m i x : Nat} {l : List Nat} {v v' : Value} {w w' : World} {cs : Array Value} (hm : l.length = m) (hv : v' = .slice (some ⟨g', 0, none⟩) (m + 1) c') (hh : w'.heap[g']? = some (.cells cs 21 (0, 0))) (hb : base ≤ g') (hc : m + 1 ≤ c') (hc2 : c' ≤ maxLen)
    (hs : cs.size = c') (ht : cs.toList.take (m + 1) = cn (put l i x)) (hg : Grew w v w' v') : Inserted base v l i x w (.returned v') w' := by
  subst hm hv
  refine ⟨_, rfl, ⟨?_, .inr ⟨g', c', cs, rfl, hb, hh, hc, hc2, by rw [hs, Nat.mul_one], by rw [Nat.mul_one]; exact ht⟩⟩, hg⟩
  have := congrArg List.length ht
  have e : cs.toList.length = c' := by simp [hs]
  rw [List.length_take, e, Nat.min_eq_left hc] at this
  rw [Nat.mul_one]; exact this.symm

set_option maxRecDepth 100000 in
set_option maxHeartbeats 4000000 in
theorem Insert_room (base g c : Nat) (l : List Nat) (i x vb : Nat) (w : World) (hown : w.ownsRow base 21 1 (.slice (some ⟨g, 0, none⟩) l.length c) l.length (cn l)) (hl : l.length ≤ 1000000) (hi : i < l.length) (hroom : l.length + 1 ≤ c)
    (hv : w.heap[vb]? = some (.cells #[.int .i32 (x : Int)] 21 (0, 0))) (hne : vb ≠ g) :
    Calls Try.prog 33 #[.slice (some ⟨g, 0, none⟩) l.length c, .int .i64 i, .slice (some ⟨vb, 0, none⟩) 1 1] w (Inserted base (.slice (some ⟨g, 0, none⟩) l.length c) l i x w) := by
  obtain ⟨cur, hbase, hg, hc2, hcs, hct⟩ : ∃ cur, base ≤ g ∧ w.heap[g]? = some (.cells cur 21 (0, 0)) ∧ c ≤ maxLen ∧ cur.size = c * 1 ∧ cur.toList.take (l.length * 1) = cn l := by
    rcases hown.2 with ⟨h, h0⟩ | ⟨g', c', cur, h, h1, h2, h3, h4, h5, h6⟩
    · cases h
    · cases h; exact ⟨cur, h1, h2, h4, h5, h6⟩
  rw [Nat.mul_one] at hcs hct
  unfold maxLen at hc2
  have hcl : (cn l).length = l.length := by simp
  have hov : ∀ lb cb, (callFunc 50 #[.slice (some ⟨vb, 0, none⟩) 1 1, .slice (some ⟨g, i + 1, none⟩) lb cb]).run Try.prog w = .ok (.value (.bool false)) w := fun lb cb => by
    rw [run_callFunc_extern Try.func50 (by kernel_rfl) (by kernel_rfl) (by kernel_rfl) (e := Extern.SlicesOverlaps.overlaps #[22, 22] #[4]) (by kernel_rfl),
      Lib.run_overlaps_apart w 22 4 21 Try.underlying22 1 Try.sizeOf21 ⟨vb, 0, none⟩ ⟨g, i + 1, none⟩ 1 1 lb cb hne 21 21 1 c (by simp [World.shape?, hv]) (by simp [World.shape?, hg, hcs]) (by omega) (by simp [World.frozen?, hv]) (by simp [World.frozen?, hv])]
    rfl
  have hdl : ((cn l).drop i).length = l.length - i := by rw [List.length_drop, hcl]
  have hcp1 : ∀ ty dc sc, (Builtin.copy_ #[22, 22] ty #[.slice (some ⟨g, i + 1, none⟩) (l.length - i) dc, .slice (some ⟨g, i, none⟩) (l.length + 1 - i) sc]).run Try.prog w.drew =
      .ok (goInt ((cn l).drop i).length) (w.drew.setRow g (cur.toList.take (i + 1) ++ (cn l).drop i ++ cur.toList.drop (i + 1 + ((cn l).drop i).length)).toArray) := fun ty dc sc =>
    run_copy_row Try.prog w.drew _ _ ty 21 g (i + 1) (l.length - i) dc ⟨g, i, none⟩ (l.length + 1 - i) sc cur 21 ((cn l).drop i) Try.underlying22 info_i32s hg (by rw [hdl]; simp only [Nat.min_def]; split <;> omega)
      (cell_drop (w := w.drew) hg (by rw [hcl]; exact hct)) (by rw [hdl]; omega) (fun v hv => one_cn l v (List.mem_of_mem_drop hv))
  obtain ⟨C1, hC1⟩ : ∃ C1, C1 = (cur.toList.take (i + 1) ++ (cn l).drop i ++ cur.toList.drop (i + 1 + ((cn l).drop i).length)).toArray := ⟨_, rfl⟩
  rw [← hC1] at hcp1
  have hC1s : C1.size = c := by rw [hC1]; simp [hcs]; omega
  have hcp2 : ∀ (W : World), W.heap = (w.setRow g C1).heap → ∀ ty dc, (Builtin.copy_ #[22, 22] ty #[.slice (some ⟨g, i, none⟩) (l.length + 1 - i) dc, .slice (some ⟨vb, 0, none⟩) 1 1]).run Try.prog W =
      .ok (goInt 1) (W.setRow g (C1.toList.take i ++ [Value.int .i32 (x : Int)] ++ C1.toList.drop (i + 1)).toArray) := fun W hW ty dc =>
    run_copy_row Try.prog W _ _ ty 21 g i (l.length + 1 - i) dc ⟨vb, 0, none⟩ 1 1 C1 21 [.int .i32 (x : Int)] Try.underlying22 info_i32s (by rw [hW]; exact heap_setRow hg) (by simp only [Nat.min_def]; split <;> simp <;> omega)
      (cell_one (by rw [hW]; exact (heap_setRow_ne hne).trans hv)) (by rw [hC1s]; simp; omega) (by simp [Value.oneCell'])
  have hfin := two_copies (cur := cur.toList) (xs := cn l) (i := i) (x := .int .i32 (x : Int)) (by rw [hcl]; exact hi) (by rw [hcl]; simp only [Array.length_toList]; omega) (by
    have := congrArg (List.take i) hct
    rw [List.take_take, Nat.min_eq_left (by omega)] at this
    exact this)
  have HFIN := Lib.hid hfin
  have HCP1 := Lib.hid hcp1
  have HCP2 := Lib.hid hcp2
  have HOV := Lib.hid hov
  have HC1 := Lib.hid hC1
  have HG := Lib.hid hg
  have HCL := Lib.hid hcl
  have HC1S := Lib.hid hC1s
  obtain ⟨m, hm⟩ : ∃ m, l.length = m := ⟨_, rfl⟩
  have HM := Lib.hid hm
  have hcc : ¬ c = i := by omega
  have hcc2 : ¬ c = i + 1 := by omega
  have hii : ((i : Int) == (m : Int)) = false := by simp; omega
  clear hfin hcp1 hcp2 hov hC1 hC1s hcl hdl hct hcs hv hown
  rw [hm] at hl hi hroom HCP1 HCP2 ⊢
  clear hm
  have hov := HOV.out
  have hw1 : IntKind.i64.wrap ((i : Int) + 1) = (i : Int) + 1 := by rw [IntKind.wrap_i64]; omega
  have hb1 : 0 ≤ (i : Int) + 1 := by omega
  have hin : i ≤ m := by omega
  have hin2 : i ≤ m + 1 := by omega
  have hb3 : (i : Int) ≤ (m : Int) + 1 := by omega
  go_enter Try.func33, Try.ntmps33
  go_wp2_with (simp only [hov])
  go_region_law (refine step_copy_runI rfl _ _ 22 22 rfl (.slice (some ⟨g, i + 1, none⟩) (m - i) (c - (i + 1))) (.slice (some ⟨g, i, none⟩) (m + 1 - i) (c - i)) (by simp [Act.eval, Act.put]) (by simp [Act.eval, Act.put]) (HCP1.out _ _ _) ?_)
  have hcp2i := HCP2.out (w.drew.setRow g C1) rfl 3 (c - i)
  go_wp2
  go_ret
  have hr1 : (w.drew.setRow g C1).heap[g]? = some (.cells C1 21 (0, 0)) := heap_setRow (w := w.drew) HG.out
  have h9 := HFIN.out
  rw [HCL.out, HM.out] at h9
  have g1 : w.grownBy (w.drew.setRow g C1) (some g) := by have := grown_setRow w.drew g C1; exact ⟨this.os, this.tape, this.output, this.size, this.block⟩
  refine ins_mk (m := m) (g' := g) (c' := c) HM.out rfl (heap_setRow hr1) hbase hroom (by unfold maxLen; exact hc2) (by have := HC1S.out; simp [this]; omega) ?_ (((Grew.refl w _).step g1 (.inl rfl)).step (grown_setRow _ _ _) (.inl rfl))
  rw [cn_put, List.toList_toArray, HC1.out, List.toList_toArray]
  rw [List.append_assoc (List.take i _), List.singleton_append] at h9
  exact h9

set_option maxRecDepth 100000 in
set_option maxHeartbeats 4000000 in
theorem Insert_grow (base g c : Nat) (l : List Nat) (i x vb : Nat) (w : World) (hown : w.ownsRow base 21 1 (.slice (some ⟨g, 0, none⟩) l.length c) l.length (cn l)) (hl : l.length ≤ 1000000) (hi : i < l.length) (hroom : c < l.length + 1) (hb : base ≤ w.heap.size)
    (hv : w.heap[vb]? = some (.cells #[.int .i32 (x : Int)] 21 (0, 0))) :
    Calls Try.prog 33 #[.slice (some ⟨g, 0, none⟩) l.length c, .int .i64 i, .slice (some ⟨vb, 0, none⟩) 1 1] w (Inserted base (.slice (some ⟨g, 0, none⟩) l.length c) l i x w) := by
  obtain ⟨cur, hg, hnc, hct⟩ : ∃ cur, w.heap[g]? = some (.cells cur 21 (0, 0)) ∧ l.length ≤ c ∧ cur.toList.take (l.length * 1) = cn l := by
    rcases hown.2 with ⟨h, h0⟩ | ⟨g', c', cur, h, h1, h2, h3, h4, h5, h6⟩
    · cases h
    · cases h; exact ⟨cur, h2, h3, h6⟩
  rw [Nat.mul_one] at hct
  obtain ⟨i0, hi0, hz0, hzs, hzb⟩ := info_parts info_i32
  have hcl : (cn l).length = l.length := by simp
  have hgw : g < w.heap.size := (Array.getElem?_eq_some_iff.1 hg).1
  have hvw : vb < w.heap.size := (Array.getElem?_eq_some_iff.1 hv).1
  have hdl : ((cn l).drop i).length = l.length - i := by rw [List.length_drop, hcl]
  have htl : ((cn l).take i).length = i := by rw [List.length_take, hcl]; omega
  have hik : i + (l.length + 1 - i) = l.length + 1 := by omega
  have hold : (Builtin.firstCells i0.size i (.slice (some ⟨g, 0, none⟩) i c)).run Try.prog w.drew = .ok ((cn l).take i).toArray w.drew := by
    rw [hzs]
    exact run_firstCells_some w.drew 1 i ⟨g, 0, none⟩ i c ((cn l).take i) (by rw [htl]; omega) (fun j v hj => by
      rw [List.getElem?_take] at hj
      split at hj
      · have := cell_drop (i := 0) hg (by rw [hcl]; exact hct) j v (by simpa using hj)
        exact this
      · cases hj)
  have hrz : ∀ ty, (Builtin.append_ #[22, 3] ty #[.slice (some ⟨g, 0, none⟩) i c, .int .i64 ((l.length : Int) + 1 - (i : Int))]).run Try.prog w =
      .ok (.slice (some ⟨w.heap.size, 0, none⟩) (l.length + 1) (grownCap w (l.length + 1) c 21)) (w.drew.alloc (.cells (((cn l).take i).toArray ++ Builtin.zeroCells (Value.int .i32 0).cells (l.length + 1 - i) ++ Builtin.zeroCells (Value.int .i32 0).cells (grownCap w (l.length + 1) c 21 - (l.length + 1))) 21)) := fun ty => by
    have h := Lib.run_append_grow_zeros w 22 3 ty 21 i0 _ .i64 .i64 Try.underlying22 Try.underlying3 hi0 hz0 (some ⟨g, 0, none⟩) i c ((cn l).take i) hold (l.length + 1 - i) (by omega) (by omega) (by omega) (by omega) (by rw [hzb]; omega) (by rw [hzb, hik]; exact growslice_fits hroom (by omega))
    rw [hik] at h
    rw [show (l.length : Int) + 1 - (i : Int) = ((l.length + 1 - i : Nat) : Int) by omega]
    exact h
  obtain ⟨G, hG⟩ : ∃ G, G = grownCap w (l.length + 1) c 21 := ⟨_, rfl⟩
  have hGn : l.length + 1 ≤ G := by rw [hG]; exact grownCap_ge w _ _ _
  have hG63 : G ≤ maxLen := by rw [hG]; exact grownCap_le_maxLen w (l.length + 1) c 21 (by unfold maxLen; omega)
  rw [← hG] at hrz
  obtain ⟨ROW, hROW⟩ : ∃ ROW : Array Value, ROW = ((cn l).take i).toArray ++ Builtin.zeroCells (Value.int .i32 0).cells (l.length + 1 - i) ++ Builtin.zeroCells (Value.int .i32 0).cells (G - (l.length + 1)) := ⟨_, rfl⟩
  rw [← hROW] at hrz
  have hRs : ROW.size = G := by rw [hROW]; simp [Builtin.zeroCells, Value.cells]; omega
  have hRt : ROW.toList.take i = (cn l).take i := by
    rw [hROW]
    simp only [Array.toList_append, List.append_assoc]
    rw [List.take_append_of_le_length (by rw [htl]; exact Nat.le_refl _), List.take_take, Nat.min_self]
  obtain ⟨W1, hW1⟩ : ∃ W1, W1 = (w.alloc (.cells ROW 21)).drew := ⟨_, rfl⟩
  have hN1 : W1.heap[w.heap.size]? = some (.cells ROW 21 (0, 0)) := by rw [hW1]; exact World.alloc_heap_new w _
  have hv1 : W1.heap[vb]? = some (.cells #[.int .i32 (x : Int)] 21 (0, 0)) := by rw [hW1]; exact (Below.heap_alloc _ _ _ hvw).trans hv
  have hg1 : W1.heap[g]? = some (.cells cur 21 (0, 0)) := by rw [hW1]; exact (Below.heap_alloc _ _ _ hgw).trans hg
  have hcp1 : ∀ ty dc, (Builtin.copy_ #[22, 22] ty #[.slice (some ⟨w.heap.size, i, none⟩) (l.length + 1 - i) dc, .slice (some ⟨vb, 0, none⟩) 1 1]).run Try.prog W1 =
      .ok (goInt 1) (W1.setRow w.heap.size (ROW.toList.take i ++ [Value.int .i32 (x : Int)] ++ ROW.toList.drop (i + 1)).toArray) := fun ty dc =>
    run_copy_row Try.prog W1 _ _ ty 21 w.heap.size i (l.length + 1 - i) dc ⟨vb, 0, none⟩ 1 1 ROW 21 [.int .i32 (x : Int)] Try.underlying22 info_i32s hN1 (by simp only [Nat.min_def]; split <;> simp <;> omega)
      (cell_one hv1) (by rw [hRs]; simp; omega) (by simp [Value.oneCell'])
  obtain ⟨R1, hR1⟩ : ∃ R1, R1 = (ROW.toList.take i ++ [Value.int .i32 (x : Int)] ++ ROW.toList.drop (i + 1)).toArray := ⟨_, rfl⟩
  rw [← hR1] at hcp1
  have hR1s : R1.size = G := by rw [hR1]; simp [hRs]; omega
  have hcp2 : ∀ ty dc sc, (Builtin.copy_ #[22, 22] ty #[.slice (some ⟨w.heap.size, i + 1, none⟩) (l.length - i) dc, .slice (some ⟨g, i, none⟩) (l.length - i) sc]).run Try.prog (W1.setRow w.heap.size R1).drew =
      .ok (goInt ((cn l).drop i).length) ((W1.setRow w.heap.size R1).drew.setRow w.heap.size (R1.toList.take (i + 1) ++ (cn l).drop i ++ R1.toList.drop (i + 1 + ((cn l).drop i).length)).toArray) := fun ty dc sc =>
    run_copy_row Try.prog (W1.setRow w.heap.size R1).drew _ _ ty 21 w.heap.size (i + 1) (l.length - i) dc ⟨g, i, none⟩ (l.length - i) sc R1 21 ((cn l).drop i) Try.underlying22 info_i32s (heap_setRow hN1) (by rw [hdl]; simp only [Nat.min_def]; split <;> omega)
      (cell_drop (w := (W1.setRow w.heap.size R1).drew) (show (W1.setRow w.heap.size R1).heap[g]? = _ from (heap_setRow_ne (by omega)).trans hg1) (by rw [hcl]; exact hct)) (by rw [hdl]; omega) (fun v hv => one_cn l v (List.mem_of_mem_drop hv))
  have hfin := two_copies2 (row := ROW.toList) (xs := cn l) (i := i) (x := .int .i32 (x : Int)) (by rw [hcl]; exact hi) (by simp only [Array.length_toList]; omega) hRt
  have hheap := heap_setRow (w := (W1.setRow w.heap.size R1).drew) (g := w.heap.size) (cs := (R1.toList.take (i + 1) ++ (cn l).drop i ++ R1.toList.drop (i + 1 + ((cn l).drop i).length)).toArray) (heap_setRow (w := W1) hN1)
  have hgrew : Grew w (.slice (some ⟨g, 0, none⟩) l.length c) ((W1.setRow w.heap.size R1).drew.setRow w.heap.size (R1.toList.take (i + 1) ++ (cn l).drop i ++ R1.toList.drop (i + 1 + ((cn l).drop i).length)).toArray) (.slice (some ⟨w.heap.size, 0, none⟩) (l.length + 1) G) := by
    have a1 : w.grownBy W1 none := by rw [hW1]; have := World.grownBy_alloc w (.cells ROW 21) none; exact ⟨this.os, this.tape, this.output, this.size, this.block⟩
    have a2 := grown_setRow W1 w.heap.size R1
    have a3 := grown_setRow (W1.setRow w.heap.size R1).drew w.heap.size (R1.toList.take (i + 1) ++ (cn l).drop i ++ R1.toList.drop (i + 1 + ((cn l).drop i).length)).toArray
    have a4 : w.grownBy ((W1.setRow w.heap.size R1).drew.setRow w.heap.size (R1.toList.take (i + 1) ++ (cn l).drop i ++ R1.toList.drop (i + 1 + ((cn l).drop i).length)).toArray) none :=
      (a1.andThen a2 (fun j e => by cases e; exact .inl (Nat.le_refl _))).andThen (show (W1.setRow w.heap.size R1).grownBy _ (some w.heap.size) from ⟨a3.os, a3.tape, a3.output, a3.size, a3.block⟩) (fun j e => by cases e; exact .inl (Nat.le_refl _))
    exact ⟨a4.but _, .inr ⟨_, rfl, Nat.le_refl _⟩⟩
  obtain ⟨R2, hR2⟩ : ∃ R2, R2 = (R1.toList.take (i + 1) ++ (cn l).drop i ++ R1.toList.drop (i + 1 + ((cn l).drop i).length)).toArray := ⟨_, rfl⟩
  rw [← hR2] at hcp2 hheap hgrew
  have hR2s : R2.size = G := by rw [hR2]; simp [hR1s]; omega
  have hR2t : R2.toList.take (l.length + 1) = cn (put l i x) := by
    rw [cn_put, hR2, List.toList_toArray, hR1, List.toList_toArray, ← hcl]
    exact hfin
  have HCP1 := Lib.hid hcp1
  have HCP2 := Lib.hid hcp2
  have HRZ := Lib.hid hrz
  have HHEAP := Lib.hid hheap
  have HGREW := Lib.hid hgrew
  have HR2S := Lib.hid hR2s
  have HR2T := Lib.hid hR2t
  have HGN := Lib.hid hGn
  have HG63 := Lib.hid hG63
  unfold maxLen at hG63
  have hbs := hb
  clear hfin hcp1 hcp2 hrz hR1 hR1s hRs hROW hRt hG hcl hdl htl hik hold hct hv hown hheap hgrew hR2 hR2s hR2t hN1 hv1 hg1 hg hi0 hz0 hzs hzb
  obtain ⟨m, hm⟩ : ∃ m, l.length = m := ⟨_, rfl⟩
  have HM := Lib.hid hm
  rw [hm] at hl hi hroom hnc hGn HCP1 HCP2 HRZ HGREW HR2T HGN ⊢
  subst hW1
  clear hm
  have hcc : ¬ c = i := by omega
  have hGi : ¬ G = i := by omega
  have hGi1 : ¬ G = i + 1 := by omega
  have hii : ((i : Int) == (m : Int)) = false := by simp; omega
  have hw1 : IntKind.i64.wrap ((i : Int) + 1) = (i : Int) + 1 := by rw [IntKind.wrap_i64]; omega
  have hb1 : 0 ≤ (i : Int) + 1 := by omega
  have hin : i ≤ m := by omega
  have hin2 : i ≤ m + 1 := by omega
  have hb3 : (i : Int) ≤ (m : Int) + 1 := by omega
  have hzz : (c : Int) < (m : Int) + 1 := by omega
  have hcp1i := HCP1.out 3 (G - i)
  go_enter Try.func33, Try.ntmps33
  go_wp2_with (at_builtin; refine Lib.wpList_append_run _ rfl _ _ _ _ rfl _ _ rfl rfl _ _ (HRZ.out _) ?_)
  go_region_law (refine step_copy_runI rfl _ _ 22 22 rfl (.slice (some ⟨w.heap.size, i + 1, none⟩) (m - i) (G - (i + 1))) (.slice (some ⟨g, i, none⟩) (m - i) (c - i)) (by simp [Act.eval, Act.put]) (by simp [Act.eval, Act.put]) (HCP2.out _ _ _) ?_)
  go_wp2
  go_ret
  exact ins_mk (m := m) (g' := w.heap.size) (c' := G) HM.out rfl HHEAP.out hbs HGN.out HG63.out HR2S.out HR2T.out HGREW.out

theorem Insert_any (base : Nat) (v : Value) (l : List Nat) (i x vb : Nat) (w : World) (hown : w.ownsRow base 21 1 v l.length (cn l)) (hl : l.length ≤ 1000000) (hi : i ≤ l.length) (hb : base ≤ w.heap.size)
    (hv : w.heap[vb]? = some (.cells #[.int .i32 (x : Int)] 21 (0, 0))) (hne : ∀ j, v.ownBlock = some j → vb ≠ j) :
    Calls Try.prog 33 #[v, .int .i64 i, .slice (some ⟨vb, 0, none⟩) 1 1] w (Inserted base v l i x w) := by
  by_cases he : i = l.length
  · subst he; exact Insert_end base v l x vb w hown hl hb hv
  · rcases hown.2 with ⟨rfl, h0⟩ | ⟨g, c, cur, rfl, _⟩
    · omega
    · by_cases hroom : l.length + 1 ≤ c
      · exact Insert_room base g c l i x vb w hown hl (by omega) hroom hv (hne g rfl)
      · exact Insert_grow base g c l i x vb w hown hl (by omega) (by omega) hb hv
end Go.Proofs.Ytcdjjodiiaahfaa
