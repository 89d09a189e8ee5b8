/-
  path: parts, the iterator that it hands back.
-/
import Derived.Test.YtjkfppgekepbeaaDoorPthH
import Derived.RangeFuncNested
import Derived.RangeFuncBound
import Derived.RangeFuncCalls
import Derived.RangeFuncLeaves
import Derived.Shelf.Abstract
import Derived.Shelf.RegionOpen
import Derived.OwnWalkIn
import Derived.TacticsInMore
import Derived.LoopNIn
import Derived.LoopIn
import Derived.Sort.CutIn
namespace Go.Proofs.YtjkfppgekepbeaaDoor.Pth
set_option maxRecDepth 100000
open Go.RowKit Go.Shelf Utf Ut Hst

attribute [local go_sem] Oper.semAt_some

/-- a part of a text: where it stands, what it holds, and whether it is the last one -/
structure Pg0 where
  l : List Int
  A : Option Addr
  n : Nat
  c : Nat
  last : Bool
def Pgp (w0 : World) (N : Nat) (x : Pg0) : Prop := x.l.length = x.n ∧ x.n ≤ N ∧ Row w0 w0.heap.size x.A (cl .i32 x.l)
abbrev Pg (w0 : World) (N : Nat) := {x : Pg0 // Pgp w0 N x}
def encP {w0 : World} {N : Nat} (x : Pg w0 N) : Array Value := #[.slice x.1.A x.1.n x.1.c, .bool x.1.last]
abbrev dpg {w0 : World} {N : Nat} (x : Pg w0 N) : List Int × Bool := (x.1.l, x.1.last)
/-- what a round keeps: all that lay below n, and two blocks -/
def KpC (n B C : Nat) (W W' : World) : Prop := Below n W W' ∧ W'.heap[B]? = W.heap[B]? ∧ W'.heap[C]? = W.heap[C]?
theorem KpC.t {n B C : Nat} {X Y Z : World} (h : KpC n B C X Y) (k : KpC n B C Y Z) : KpC n B C X Z := ⟨h.1.trans k.1, k.2.1.trans h.2.1, k.2.2.trans h.2.2⟩
theorem KpC.b {n B C : Nat} {w : World} (hn : n ≤ w.heap.size) (hB : B < w.heap.size) (hC : C < w.heap.size) (W : World) (l : Nat) (o o' : Obj) (hl : w.heap.size ≤ l) (h : W.heap[l]? = some o) (h1 : o.isCells = false) (h2 : o.isWalk = false) : KpC n B C W (W.putObj l o') :=
  ⟨belowK_b hn W l o o' hl h h1 h2, World.putObj_heap_other (by omega), World.putObj_heap_other (by omega)⟩
def subA (A : Option Addr) (l c : Nat) : Option Addr := if c = l then A else A.map (·.add l)
theorem under22 : Tryd.prog.underlying 22 = some (.slice (Tryd.prog.elem 22)) := by simp [Program.elem, Tryd.underlying22]
theorem elem22 : Tryd.prog.elem 22 = 21 := by simp [Program.elem, Tryd.underlying22]
theorem size22 (W : World) : (sizeOf 21).run Tryd.prog W = .ok 1 W := by kernel_rfl
theorem sl_lh (A : Option Addr) (n c l h : Nat) (h1 : l ≤ h) (h2 : h ≤ c) (W : World) : (Instr.sliceAt 22 (.slice A n c) (some (.int .i64 (l : Int))) (some (.int .i64 (h : Int))) none).run Tryd.prog W = .ok (.slice (subA A l c) (h - l) (c - l)) W := by
  rw [run_sliceAt_slice W 22 _ _ _ _ under22, run_slice_lh W 22 _ n c under22 .i64 .i64 (l : Int) (h : Int) (by omega) (by omega) (by omega), elem22, size22]
  simp [Result.andThen, sliced, subA]
theorem sl_l (A : Option Addr) (n c l : Nat) (h1 : l ≤ n) (W : World) : (Instr.sliceAt 22 (.slice A n c) (some (.int .i64 (l : Int))) none none).run Tryd.prog W = .ok (.slice (subA A l c) (n - l) (c - l)) W := by
  rw [run_sliceAt_slice W 22 _ _ _ _ under22, run_slice_l W 22 _ n c under22 .i64 (l : Int) (by omega) (by omega), elem22, size22]
  simp [Result.andThen, sliced, subA]
/-- from one place to another one -/
def cutL (T : List Int) (f i : Nat) : List Int := (T.drop f).take (i - f)
theorem row_cut {w : World} {B : Nat} {A : Option Addr} {T : List Int} (hr : Row w B A (cl .i32 T)) {f i c : Nat} (hf : f ≤ i) (hi : i ≤ T.length) (hc : T.length ≤ c) : Row w B (subA A f c) (cl .i32 (cutL T f i)) := by
  have := (hr.sub (l := f) (n := i - f) (cap := c) (m := f) (by rw [List.length_map]; omega) (fun h => by omega)).1
  unfold subA cutL cl
  rw [List.map_take, List.map_drop]
  exact this
theorem cut_len {T : List Int} {f i : Nat} (hf : f ≤ i) (hi : i ≤ T.length) : (cutL T f i).length = i - f := by
  unfold cutL
  rw [List.length_take, List.length_drop]
  omega
theorem cut_snoc {T : List Int} {f i : Nat} (hf : f ≤ i) (hi : i < T.length) : cutL T f (i + 1) = cutL T f i ++ [T[i]] := by
  unfold cutL
  rw [show i + 1 - f = (i - f) + 1 by omega, List.take_succ_eq_append_getElem (by rw [List.length_drop]; omega)]
  congr 1
  simp [show f + (i - f) = i by omega]
theorem drop_cut {T : List Int} {f i : Nat} (hf : f ≤ i) (hi : i < T.length) : T.drop f = cutL T f i ++ T[i] :: T.drop (i + 1) := by
  unfold cutL
  have h1 := (List.take_append_drop (i - f) (T.drop f)).symm
  rw [List.drop_drop, show f + (i - f) = i by omega, List.drop_eq_getElem_cons hi] at h1
  exact h1
theorem mk_part {sp : Bool} {T : List Int} {f i : Nat} (hf : f ≤ i) (hi : i < T.length) (hno : ∀ r ∈ cutL T f i, sep sp r = false) (hs : sep sp T[i] = true) : mk (prt sp (T.drop f)) = (cutL T f i, false) :: mk (prt sp (T.drop (i + 1))) := by
  rw [drop_cut hf hi, prt_app hno hs]
  exact mk_app [cutL T f i] _ (prt_ne sp _)
theorem mk_end {sp : Bool} {T : List Int} {f : Nat} (hno : ∀ r ∈ cutL T f T.length, sep sp r = false) : mk (prt sp (T.drop f)) = [(T.drop f, true)] := by
  have e : cutL T f T.length = T.drop f := by
    unfold cutL
    rw [List.take_of_length_le (by rw [List.length_drop]; omega)]
  rw [e] at hno
  rw [prt_none hno]
  rfl
theorem mk_pos (sp : Bool) (T : List Int) : 0 < (mk (prt sp T)).length := by
  rw [mk_len]
  exact List.length_pos_iff.2 (prt_ne sp T)
theorem pre_ltP {w0 : World} {N : Nat} {sp : Bool} {T : List Int} {pre : List (Pg w0 N)} {f : Nat} (h : mk (prt sp T) = pre.map dpg ++ mk (prt sp (T.drop f))) : pre.length < (mk (prt sp T)).length := by
  rw [h, List.length_append, List.length_map]
  have := mk_pos sp (T.drop f)
  omega
theorem sep_no {sp : Bool} {r : Int} (h : sep sp r = false) : (r != 47) = true ∧ ((r != 92) = true ∨ ((r != 92) = false ∧ sp = false)) := by
  unfold sep at h
  rw [Bool.or_eq_false_iff, Bool.and_eq_false_iff] at h
  refine ⟨by simp [bne, h.1], ?_⟩
  by_cases e : r = 92
  · refine .inr ⟨by simp [e], ?_⟩
    rcases h.2 with h | h
    · exact h
    · simp [e] at h
  · exact .inl (bne_iff_ne.2 e)
theorem sep_yes {sp : Bool} {r : Int} (h : sep sp r = true) : (r != 47) = false ∨ ((r != 47) = true ∧ (r != 92) = false ∧ sp = true) := by
  unfold sep at h
  rw [Bool.or_eq_true, Bool.and_eq_true] at h
  by_cases e : r = 47
  · exact .inl (by simp [e])
  · rcases h with h | h
    · exact absurd (beq_iff_eq.1 h) e
    · exact .inr ⟨bne_iff_ne.2 e, by simp [bne, h.2], h.1⟩
def PRel (w0 : World) (N B1 B2 : Nat) (sp : Bool) (T : List Int) (A : Option Addr) (k c : Nat) (J : List (Pg w0 N) → World → Prop) (v4 v9 : Value) (wr : World) : Prop :=
  ∃ (pre : List (Pg w0 N)) (f i : Nat), v4 = .int .i64 (f : Int) ∧ v9 = .int .i64 (i : Int) ∧ f ≤ i ∧ i ≤ k ∧ Hid (∀ r ∈ cutL T f i, sep sp r = false) ∧ Hid (mk (prt sp T) = pre.map dpg ++ mk (prt sp (T.drop f))) ∧ J pre wr ∧
    Hid (wr.heap[B1]? = some (.cells #[.slice A k c] 22 (0, 0))) ∧ Hid (wr.heap[B2]? = some (.cells #[.bool sp] 4 (0, 0))) ∧ Hid (Below w0.heap.size w0 wr)
set_option maxRecDepth 100000 in
set_option maxHeartbeats 2000000 in
theorem parts1_in (n : Nat) (hn : 1 ≤ n) (Lb B1 B2 : Nat) (w0 : World) (T : List Int) (A : Option Addr) (k c : Nat) (hk : T.length = k) (hc : k ≤ c) (hk1 : k ≤ 1000000) (hr : Row w0 w0.heap.size A (cl .i32 T)) (sp : Bool) (J Jx : List (Pg w0 k) → World → Prop) (W : World) (hW : Below w0.heap.size w0 W)
    (hY : ∀ pre x W, J pre W → pre.length < (mk (prt sp T)).length → YieldAt Fence.wide (n - 1) Tryd.prog Lb (encP x) W fun e W' =>
      (e = .returned (.bool true) ∧ J (pre ++ [x]) W' ∧ KpC w0.heap.size B1 B2 W W') ∨ (e = .returned (.bool false) ∧ Jx (pre ++ [x]) W'))
    (hB1 : W.heap[B1]? = some (.cells #[.slice A k c] 22 (0, 0))) (hB2 : W.heap[B2]? = some (.cells #[.bool sp] 4 (0, 0))) (h0 : J [] W) :
    CallsIn Fence.wide n Tryd.prog 54 #[.func (.yield Lb) #[] #[], .pointer (some ⟨B1, 0, none⟩), .pointer (some ⟨B2, 0, none⟩)] W fun e W' => (∃ v, e = .returned v) ∧
      ((∃ ys : List (Pg w0 k), ys.map dpg = mk (prt sp T) ∧ J ys W') ∨ (∃ pre : List (Pg w0 k), pre.map dpg <+: mk (prt sp T) ∧ pre ≠ [] ∧ Jx pre W')) := by
  have hcell1 : W.cell? ⟨B1, 0, none⟩ = some (.slice A k c) := by simp [World.cell?, hB1]
  have HY := Lib.hid hY
  have HB1 := Lib.hid hB1
  have HB2 := Lib.hid hB2
  have HK := Lib.hid hk
  have HR := Lib.hid hr
  clear hY hB1 hB2 hk hr
  refine callsIn_of_wp Tryd.func54 rfl trivial ?_ rfl
  simp only [Tryd.ntmps54, List.size_toArray, List.length_cons, List.length_nil, Nat.reduceAdd, Nat.reduceSub, Array.replicate_succ, Array.replicate_zero, List.push_toArray, List.append_toArray, List.nil_append, List.cons_append]
  gi_wp2_with fail
  gi_loopw [4, 9] (fun v4 v9 wr => PRel w0 k B1 B2 sp T A k c J v4 v9 wr) (fun _ v9 _ => k - (intOf v9).toNat)
  case atStart => exact ⟨[], 0, 0, rfl, rfl, Nat.le_refl _, Nat.zero_le _, Lib.hid (fun r hr => by simp [cutL] at hr), Lib.hid rfl, h0, HB1, HB2, Lib.hid hW⟩
  case round =>
    obtain ⟨pre, f, i, rfl, rfl, hfi, hik, HNO, HCO, hJs, HC1, HC2, HB⟩ := hrel
    clear h0 hcell1 hW
    have hcell1 : wr.cell? ⟨B1, 0, none⟩ = some (.slice A k c) := by simp [World.cell?, HC1.out]
    have hcell2 : wr.cell? ⟨B2, 0, none⟩ = some (.bool sp) := by simp [World.cell?, HC2.out]
    by_cases hlt : i < k
    · have hltz : (i : Int) < (k : Int) := by omega
      have hiT : i < T.length := by rw [HK.out]; exact hlt
      obtain ⟨b, o, rfl, hb, hcc⟩ := HR.out.at_ (by simp; omega)
      have c0 : wr.cell? ⟨b, o + i, none⟩ = some (.int .i32 T[i]) := by
        rw [HB.out.cell (p := ⟨b, o + i, none⟩) hb, hcc i (by simp; omega), cl_get _ _ _ hiT]
      have HSN := Lib.hid (cut_snoc hfi hiT)
      have HMP := Lib.hid (fun h => mk_part (sp := sp) hfi hiT HNO.out h)
      have HLN := Lib.hid (cut_len hfi (show i ≤ T.length by omega))
      obtain ⟨r, hr⟩ : ∃ r, T[i] = r := ⟨_, rfl⟩
      rw [hr] at c0 HSN HMP
      have hrow := row_cut HR.out hfi (show i ≤ T.length by omega) (show T.length ≤ c by rw [HK.out]; exact hc)
      clear hr hcc
      cases hs : sep sp r with
      | false =>
        have HNO2 : Hid (∀ q ∈ cutL T f (i + 1), sep sp q = false) := Lib.hid (by
          rw [HSN.out]
          intro q hq
          rcases List.mem_append.1 hq with hq | hq
          · exact HNO.out q hq
          · rw [List.mem_singleton] at hq
            rw [hq]
            exact hs)
        obtain ⟨e1, e2 | ⟨e2, e3⟩⟩ := sep_no hs
        · clear hs hrow
          gi_wp2
          go_roundw
          case rel => exact ⟨pre, f, i + 1, rfl, by go_num, by omega, by omega, HNO2, HCO, hJs, HC1, HC2, HB⟩
          case measure => simp [intOf]; omega
        · rw [e3] at hcell2
          clear hs hrow e3
          gi_wp2
          go_roundw
          case rel => exact ⟨pre, f, i + 1, rfl, by go_num, by omega, by omega, HNO2, HCO, hJs, HC1, HC2, HB⟩
          case measure => simp [intOf]; omega
      | true =>
        have hsl := fun W => sl_lh (some ⟨b, o, none⟩) k c f i hfi (by omega) W
        obtain ⟨A', hA'⟩ : ∃ A', subA (some ⟨b, o, none⟩) f c = A' := ⟨_, rfl⟩
        rw [hA'] at hsl hrow
        have hq1 : Pgp w0 k ⟨cutL T f i, A', i - f, c - f, false⟩ := ⟨HLN.out, by show i - f ≤ k; omega, hrow⟩
        obtain ⟨fn, tmps, assign, body, hy, hR⟩ := HY.out pre ⟨⟨cutL T f i, A', i - f, c - f, false⟩, hq1⟩ _ hJs (pre_ltP HCO.out)
        have HCS : Hid (mk (prt sp T) = (pre ++ [(⟨⟨cutL T f i, A', i - f, c - f, false⟩, hq1⟩ : Pg w0 k)]).map dpg ++ mk (prt sp (T.drop (i + 1)))) := Lib.hid (HCO.out.trans (by
          rw [HMP.out hs, List.map_append, List.map_singleton, List.append_assoc]
          rfl))
        simp only [encP] at hy
        have HN0 : Hid (∀ q ∈ cutL T (i + 1) (i + 1), sep sp q = false) := Lib.hid (fun q hq => by simp [cutL] at hq)
        have hye := sep_yes hs
        clear hs hrow hA' hJs
        rcases hye with e1 | ⟨e1, e2, e3⟩
        · gi_wp2
          refine hR.mono ?_
          rintro e W3 (⟨rfl, hJ3, hk3⟩ | ⟨rfl, hJx3⟩)
          · gi_wp2
            go_roundw
            case rel => exact ⟨_, i + 1, i + 1, by go_num, by go_num, Nat.le_refl _, by omega, HN0, HCS, hJ3, Lib.hid (hk3.2.1.trans HC1.out), Lib.hid (hk3.2.2.trans HC2.out), Lib.hid (HB.out.trans hk3.1)⟩
            case measure => simp [intOf]; omega
          · gi_wp2
            refine bodyPost_ret (results_none rfl _ _ _) rfl ?_
            exact ⟨⟨_, rfl⟩, .inr ⟨_, ⟨_, HCS.out.symm⟩, by simp, hJx3⟩⟩
        · rw [e3] at hcell2
          gi_wp2
          refine hR.mono ?_
          rintro e W3 (⟨rfl, hJ3, hk3⟩ | ⟨rfl, hJx3⟩)
          · gi_wp2
            go_roundw
            case rel => exact ⟨_, i + 1, i + 1, by go_num, by go_num, Nat.le_refl _, by omega, HN0, HCS, hJ3, Lib.hid (hk3.2.1.trans HC1.out), Lib.hid (hk3.2.2.trans HC2.out), Lib.hid (HB.out.trans hk3.1)⟩
            case measure => simp [intOf]; omega
          · gi_wp2
            refine bodyPost_ret (results_none rfl _ _ _) rfl ?_
            exact ⟨⟨_, rfl⟩, .inr ⟨_, ⟨_, HCS.out.symm⟩, by simp, hJx3⟩⟩
    · obtain rfl : i = k := by omega
      have hltz : ¬ ((i : Nat) : Int) < (i : Int) := by omega
      have hsl := fun W => sl_l A i c f hfi W
      have hrow := row_cut HR.out hfi (show i ≤ T.length by rw [HK.out]; exact Nat.le_refl _) (show T.length ≤ c by rw [HK.out]; exact hc)
      have hce : cutL T f i = T.drop f := by
        unfold cutL
        rw [List.take_of_length_le (by rw [List.length_drop, HK.out]; omega)]
      rw [hce] at hrow
      obtain ⟨A', hA'⟩ : ∃ A', subA A f c = A' := ⟨_, rfl⟩
      rw [hA'] at hsl hrow
      have hq1 : Pgp w0 i ⟨T.drop f, A', i - f, c - f, true⟩ := ⟨by show (T.drop f).length = i - f; rw [List.length_drop, HK.out], by show i - f ≤ i; omega, hrow⟩
      obtain ⟨fn, tmps, assign, body, hy, hR⟩ := HY.out pre ⟨⟨T.drop f, A', i - f, c - f, true⟩, hq1⟩ _ hJs (pre_ltP HCO.out)
      have HCS : Hid ((pre ++ [(⟨⟨T.drop f, A', i - f, c - f, true⟩, hq1⟩ : Pg w0 i)]).map dpg = mk (prt sp T)) := Lib.hid (by
        rw [HCO.out, mk_end (by rw [HK.out]; exact HNO.out), List.map_append, List.map_singleton])
      simp only [encP] at hy
      clear hrow hA' hJs hce
      gi_wp2
      refine hR.mono ?_
      rintro e W3 (⟨rfl, hJ3, hk3⟩ | ⟨rfl, hJx3⟩)
      · gi_wp2
        go_end0
        exact ⟨⟨_, rfl⟩, .inl ⟨_, HCS.out, hJ3⟩⟩
      · gi_wp2
        go_end0
        exact ⟨⟨_, rfl⟩, .inr ⟨_, by rw [HCS.out]; exact List.prefix_refl _, by simp, hJx3⟩⟩
/-- what path.parts hands back, as an iterator -/
theorem parts_stops (n : Nat) (hn : 1 ≤ n) (B1 B2 : Nat) (w0 : World) (T : List Int) (A : Option Addr) (k c : Nat) (hk : T.length = k) (hc : k ≤ c) (hk1 : k ≤ 1000000) (hr : Row w0 w0.heap.size A (cl .i32 T)) (sp : Bool) (w : World) (hBw : Below w0.heap.size w0 w) (hB1 : w.heap[B1]? = some (.cells #[.slice A k c] 22 (0, 0))) (hB2 : w.heap[B2]? = some (.cells #[.bool sp] 4 (0, 0))) :
    SeqStopsK Fence.wide n Tryd.prog 54 #[.pointer (some ⟨B1, 0, none⟩), .pointer (some ⟨B2, 0, none⟩)] (encP (w0 := w0) (N := k)) (KpC w0.heap.size B1 B2) (fun ys => ys.map dpg = mk (prt sp T)) (fun pre => pre.map dpg <+: mk (prt sp T) ∧ pre ≠ []) (mk (prt sp T)).length w := fun Lb J Jx W hW _ _ hY h0 =>
  (parts1_in n hn Lb B1 B2 w0 T A k c hk hc hk1 hr sp J Jx W (hBw.trans (hW.mono hBw.size)) hY ((hW.block B1 (Array.getElem?_eq_some_iff.1 hB1).1).trans hB1) ((hW.block B2 (Array.getElem?_eq_some_iff.1 hB2).1).trans hB2) h0).mono fun _ _ h => ⟨h.1, h.2.imp id fun ⟨pre, h1, h2, h3⟩ => ⟨pre, ⟨h1, h2⟩, h3⟩⟩
end Go.Proofs.YtjkfppgekepbeaaDoor.Pth
