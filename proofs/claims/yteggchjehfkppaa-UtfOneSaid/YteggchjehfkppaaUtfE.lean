/-
  The contracts of utf.divide and of the iterator that it hands back.
-/
import Derived.Test.YteggchjehfkppaaUtfD
import Derived.RangeFuncNested
import Derived.RangeFuncBound
import Derived.RangeFuncCalls
import Derived.RangeFuncLeaves
import Derived.Shelf.Abstract
import Derived.Shelf.RegionOpen
import Derived.OwnWalkIn
import Derived.TacticsInMore
import Derived.LoopNIn
import Derived.LoopIn
namespace Go.Proofs.Yteggchjehfkppaa
open Go.RowKit Go.Shelf Utf

attribute [local go_sem] Oper.semAt_some

/-- a code as the two values that are yielded -/
def cdV (x : Cd) : Value := .agg #[.int .i32 x.1, .int .i64 (x.2.1 : Int), .int .i64 (x.2.2.1 : Int)]
def encs (x : Cd) : Array Value := #[.agg #[.int .i32 x.1, .int .i64 (x.2.1 : Int), .int .i64 (x.2.2.1 : Int)], .bool x.2.2.2]

/-- what a round keeps: all that lay below n, and one block -/
def KpB (n B : Nat) (W W' : World) : Prop := Below n W W' ∧ W'.heap[B]? = W.heap[B]?
theorem KpB.t {n B : Nat} {X Y Z : World} (h : KpB n B X Y) (k : KpB n B Y Z) : KpB n B X Z := ⟨h.1.trans k.1, k.2.trans h.2⟩
theorem KpB.b {n B : Nat} {w : World} (hn : n ≤ w.heap.size) (hB : B < w.heap.size) (W : World) (l : Nat) (o o' : Obj) (hl : w.heap.size ≤ l) (h : W.heap[l]? = some o) (h1 : o.isCells = false) (h2 : o.isWalk = false) : KpB n B W (W.putObj l o') :=
  ⟨belowK_b hn W l o o' hl h h1 h2, World.putObj_heap_other (by omega)⟩

set_option maxHeartbeats 1000000 in
theorem divide_any (A : Option Addr) (len cap : Nat) (w : World) (n : Nat) :
    CallsIn Fence.wide n Try.prog 23 #[.slice A len cap] w fun e w' => e = .returned (.func (.func 29) #[] #[.pointer (some ⟨w.heap.size, 0, none⟩)]) ∧ w' = w.alloc (.cells #[.slice A len cap] 22) := by
  refine callsIn_of_wp Try.func23 rfl trivial ?_ rfl
  simp only [Try.ntmps23, List.size_toArray, List.length_cons, List.length_nil, Nat.reduceAdd, Nat.reduceSub, Array.replicate_succ, Array.replicate_zero, List.push_toArray, List.append_toArray, List.nil_append, List.cons_append]
  gi_wp2
  go_ret
  exact ⟨rfl, rfl⟩

def DRel (bs : List Int) (n₁ Bn : Nat) (A : Option Addr) (len cap : Nat) (J : List Cd → World → Prop) (i : Value) (wr : World) : Prop :=
  ∃ (pre : List Cd) (k : Nat), k ≤ len ∧ i = .int .i64 k ∧ codes bs = pre ++ codesAt bs k ∧ J pre wr ∧ Row wr n₁ A (cl .u8 bs) ∧ wr.heap[Bn]? = some (.cells #[.slice A len cap] 22 (0, 0)) ∧ n₁ ≤ wr.heap.size

set_option maxRecDepth 100000 in
set_option maxHeartbeats 1000000 in
theorem divide1_in (n : Nat) (hn : 1 ≤ n) (l Bn n₁ : Nat) (A : Option Addr) (len cap : Nat) (bs : List Int) (hlen : bs.length = len) (hcap : len ≤ cap) (hm : len ≤ 100000) (hbyt : Byt bs) (J Jx : List Cd → World → Prop) (W : World) (hJ : AbidesFrom W.heap.size J)
    (hY : ∀ pre x W, J pre W → pre.length < bs.length → YieldAt Fence.wide (n - 1) Try.prog l (encs x) W fun e W' =>
      (e = .returned (.bool true) ∧ J (pre ++ [x]) W' ∧ KpB n₁ Bn W W') ∨ (e = .returned (.bool false) ∧ Jx (pre ++ [x]) W'))
    (hBn : W.heap[Bn]? = some (.cells #[.slice A len cap] 22 (0, 0))) (hr : Row W n₁ A (cl .u8 bs)) (hn₁ : n₁ ≤ W.heap.size) (h0 : J [] W) :
    CallsIn Fence.wide n Try.prog 29 #[.func (.yield l) #[] #[], .pointer (some ⟨Bn, 0, none⟩)] W fun e W' => (∃ v, e = .returned v) ∧
      ((∃ ys, ys = codes bs ∧ J ys W') ∨ (∃ pre, pre <+: codes bs ∧ Jx pre W')) := by
  have HL := Lib.hid hlen
  clear hlen
  refine callsIn_of_wp Try.func29 rfl trivial ?_ rfl
  simp only [Try.ntmps29, List.size_toArray, List.length_cons, List.length_nil, Nat.reduceAdd, Nat.reduceSub, Array.replicate_succ, Array.replicate_zero, List.push_toArray, List.append_toArray, List.nil_append, List.cons_append]
  gi_wp2
  gi_loopw [3] (fun i wr => DRel bs n₁ Bn A len cap J i wr) (fun i _ => len - (intOf i).toNat)
  case atStart => exact ⟨[], 0, by omega, rfl, by rw [codes_eq]; rfl, h0, hr, hBn, hn₁⟩
  case round =>
    obtain ⟨pre, k, hk, rfl, hcodes, hJs, hrw, hBw, hsz⟩ := hrel
    have hc := World.cell?_of_block (a := ⟨Bn, 0, none⟩) (w := wr) (w' := wr) rfl
    have hcell : wr.cell? ⟨Bn, 0, none⟩ = some (.slice A len cap) := by simp [World.cell?, hBw]
    clear hc
    by_cases hlt : k < len
    · have hkl : k < bs.length := by rw [HL.out]; exact hlt
      have hrow : Row wr wr.heap.size (Option.map (fun x => x.add k) A) (cl .u8 (bs.drop k)) := by
        have h := (hrw.sub (l := k) (n := len - k) (cap := cap) (m := k) (by simp [HL.out]; omega) (by omega)).2 rfl
        rw [← List.map_drop, List.take_of_length_le (by simp [HL.out])] at h
        exact h.mono hsz
      have hf := first_any (bs.drop k) _ (len - k) (cap - k) wr (by rw [List.length_drop, HL.out]) (by omega) (by omega) (hbyt.drop k) hrow
      have hfl := first_len (drop_ne hkl)
      have hst := codesAt_step bs hkl
      have hfl2 : (firstC (bs.drop k)).2.1 ≤ len - k := by have := hfl.2.2; rw [List.length_drop, HL.out] at this; exact this
      generalize hx : firstC (bs.drop k) = x at hst hfl hfl2
      obtain ⟨r, sz, ok⟩ := x
      unfold FirstDone at hf
      rw [hx] at hf
      have HCO := Lib.hid hcodes
      have HST := Lib.hid hst
      clear hx hcodes hst hbyt hBn hr hn₁ h0
      have HF := Lib.hid hf
      have HJ := Lib.hid hJ
      have HY := Lib.hid hY
      clear hf hJ hY
      dsimp only at hfl hfl2
      gi_wp2_with fail
      refine ⟨trivial, (callsIn_wide.2 HF.out).mono ?_⟩
      rintro e w1 ⟨rfl, hB1⟩
      have hJ1 : J pre w1 := HJ.out pre wr w1 none hJs ⟨hB1.os, hB1.tape, hB1.output, hB1.size, fun j hj _ => hB1.block j hj⟩ (fun r e => by cases e)
      have hBlt : Bn < wr.heap.size := (Array.getElem?_eq_some_iff.1 hBw).1
      have hBw1 := (hB1.block Bn hBlt).trans hBw
      have hcell1 : w1.cell? ⟨Bn, 0, none⟩ = some (.slice A len cap) := by simp [World.cell?, hBw1]
      obtain ⟨fn, tmps, assign, body, hy, hR⟩ := HY.out pre (r, k, k + sz, ok) w1 hJ1 (pre_lt HCO.out hkl)
      simp only [encs, Int.natCast_add] at hy
      clear hJs
      gi_wp2
      refine hR.mono ?_
      rintro e W3 (⟨rfl, hJ3, hk3⟩ | ⟨rfl, hJx3⟩)
      · gi_wp2
        go_roundw
        case rel => exact ⟨pre ++ [(r, k, k + sz, ok)], k + sz, by omega, by go_num, by rw [List.append_assoc, HCO.out, HST.out]; rfl, hJ3, (hrw.below (hB1.mono hsz)).below hk3.1, hk3.2.trans hBw1, Nat.le_trans hsz (Nat.le_trans hB1.size hk3.1.size)⟩
        case measure => simp [intOf]; omega
      · gi_wp2
        refine bodyPost_ret (results_none rfl _ _ _) rfl ?_
        exact ⟨⟨_, rfl⟩, .inr ⟨pre ++ [(r, k, k + sz, ok)], ⟨codesAt bs (k + sz), by rw [List.append_assoc, HCO.out, HST.out]; rfl⟩, hJx3⟩⟩
    · obtain rfl : k = len := by omega
      have HCO := Lib.hid hcodes
      clear hcodes
      gi_wp2
      go_end0
      exact ⟨⟨_, rfl⟩, .inl ⟨pre, by rw [HCO.out, codesAt_end bs (by rw [HL.out]; omega), List.append_nil], hJs⟩⟩

/-- what utf.divide hands back, as an iterator -/
theorem divide_stops (n : Nat) (hn : 1 ≤ n) (Bn n₁ : Nat) (A : Option Addr) (len cap : Nat) (bs : List Int) (hlen : bs.length = len) (hcap : len ≤ cap) (hm : len ≤ 100000) (hbyt : Byt bs) (w : World)
    (hBn : w.heap[Bn]? = some (.cells #[.slice A len cap] 22 (0, 0))) (hr : Row w n₁ A (cl .u8 bs)) (hn₁ : n₁ ≤ w.heap.size) :
    SeqStopsK Fence.wide n Try.prog 29 #[.pointer (some ⟨Bn, 0, none⟩)] encs (KpB n₁ Bn) (fun ys => ys = codes bs) (fun pre => pre <+: codes bs) bs.length w := fun l J Jx W hW hJ _ hY h0 =>
  divide1_in n hn l Bn n₁ A len cap bs hlen hcap hm hbyt J Jx W hJ hY ((hW.block Bn (Array.getElem?_eq_some_iff.1 hBn).1).trans hBn) (hr.below (hW.mono hn₁)) (Nat.le_trans hn₁ hW.size) h0

end Go.Proofs.Yteggchjehfkppaa
