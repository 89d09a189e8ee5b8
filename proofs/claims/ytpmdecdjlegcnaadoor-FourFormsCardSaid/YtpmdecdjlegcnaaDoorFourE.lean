/-
  four: parts, the iterator that it hands back.
-/
import Derived.Test.YtpmdecdjlegcnaaDoorFourD
import Derived.RangeFuncNested
import Derived.RangeFuncBound
import Derived.RangeFuncCalls
import Derived.RangeFuncLeaves
import Derived.Shelf.Abstract
import Derived.Shelf.RegionOpen
import Derived.OwnWalkIn
import Derived.TacticsInMore
import Derived.LoopNIn
import Derived.LoopIn
namespace Go.Proofs.YtpmdecdjlegcnaaDoor.Fou
open Go.RowKit Go.Shelf

attribute [local go_sem] Oper.semAt_some

/-- a part: a text that is not too long -/
abbrev Pt := {x : ByteArray // x.size ≤ 1000000}
abbrev dp (x : Pt) : List UInt8 := dl x.1
def encS (x : Pt) : Array Value := #[.string x.1]
/-- what a round keeps: all that lay below n, and one block -/
def KpB (n B : Nat) (W W' : World) : Prop := Below n W W' ∧ W'.heap[B]? = W.heap[B]?
theorem KpB.t {n B : Nat} {X Y Z : World} (h : KpB n B X Y) (k : KpB n B Y Z) : KpB n B X Z := ⟨h.1.trans k.1, k.2.trans h.2⟩
theorem KpB.b {n B : Nat} {w : World} (hn : n ≤ w.heap.size) (hB : B < w.heap.size) (W : World) (l : Nat) (o o' : Obj) (hl : w.heap.size ≤ l) (h : W.heap[l]? = some o) (h1 : o.isCells = false) (h2 : o.isWalk = false) : KpB n B W (W.putObj l o') :=
  ⟨belowK_b hn W l o o' hl h h1 h2, World.putObj_heap_other (by omega)⟩

set_option maxHeartbeats 1000000 in
theorem parts_any (s : ByteArray) (w : World) (n : Nat) :
    CallsIn Fence.wide n Tryd.prog 32 #[.string s] w fun e w' => e = .returned (.func (.func 54) #[] #[.pointer (some ⟨w.heap.size, 0, none⟩)]) ∧ w' = w.alloc (.cells #[.string s] 9) := by
  refine callsIn_of_wp Tryd.func32 rfl trivial ?_ rfl
  simp only [Tryd.ntmps32, List.size_toArray, List.length_cons, List.length_nil, Nat.reduceAdd, Nat.reduceSub, Array.replicate_succ, Array.replicate_zero, List.push_toArray, List.append_toArray, List.nil_append, List.cons_append]
  gi_wp2
  go_ret
  exact ⟨rfl, rfl⟩

def szOf : Value → Nat
  | .string s => s.size
  | _ => 0
def PRel (l : List UInt8) (n₁ : Nat) (J : List Pt → World → Prop) (v : Value) (wr : World) : Prop :=
  ∃ (pre : List Pt) (rest : ByteArray), v = .string rest ∧ rest.size ≤ 1000000 ∧ rpt (trm l) = pre.map dp ++ rpt (dl rest) ∧ J pre wr ∧ n₁ ≤ wr.heap.size
theorem pre_lt {l : List UInt8} {pre : List Pt} {r : List UInt8} (h : rpt l = pre.map dp ++ rpt r) : pre.length < (rpt l).length := by
  rw [h, List.length_append, List.length_map]
  have := List.length_pos_iff.2 (rpt_ne r)
  omega

set_option maxRecDepth 100000 in
set_option maxHeartbeats 1000000 in
theorem parts1_in (n : Nat) (hn : 1 ≤ n) (L Bn n₁ : Nat) (s : ByteArray) (hs : s.size ≤ 1000000) (J Jx : List Pt → World → Prop) (W : World)
    (hY : ∀ pre x W, J pre W → pre.length < (rpt (trm (dl s))).length → YieldAt Fence.wide (n - 1) Tryd.prog L (encS x) W fun e W' =>
      (e = .returned (.bool true) ∧ J (pre ++ [x]) W' ∧ KpB n₁ Bn W W') ∨ (e = .returned (.bool false) ∧ Jx (pre ++ [x]) W'))
    (hBn : W.heap[Bn]? = some (.cells #[.string s] 9 (0, 0))) (hn₁ : n₁ ≤ W.heap.size) (h0 : J [] W) :
    CallsIn Fence.wide n Tryd.prog 54 #[.func (.yield L) #[] #[], .pointer (some ⟨Bn, 0, none⟩)] W fun e W' => (∃ v, e = .returned v) ∧
      ((∃ ys : List Pt, ys.map dp = rpt (trm (dl s)) ∧ J ys W') ∨ (∃ pre : List Pt, pre.map dp <+: rpt (trm (dl s)) ∧ pre ≠ [] ∧ Jx pre W')) := by
  have hcell0 : W.cell? ⟨Bn, 0, none⟩ = some (.string s) := by simp [World.cell?, hBn]
  have HY := Lib.hid hY
  clear hY hBn
  refine callsIn_of_wp Tryd.func54 rfl trivial ?_ rfl
  simp only [Tryd.ntmps54, List.size_toArray, List.length_cons, List.length_nil, Nat.reduceAdd, Nat.reduceSub, Array.replicate_succ, Array.replicate_zero, List.push_toArray, List.append_toArray, List.nil_append, List.cons_append]
  gi_wp2_with fail
  refine ⟨trivial, (callsIn_wide.2 (TrimSuffix_dot s _ hs)).mono ?_⟩
  rintro e w1 ⟨t, rfl, ht, rfl⟩
  have htz : t.size ≤ 1000000 := by
    rw [Lib.size_eq]
    show (dl t).length ≤ _
    rw [ht]
    have := trm_size s.data.toList
    rw [← Lib.size_eq] at this
    omega
  have HT := Lib.hid ht
  clear ht hcell0
  gi_wp2
  gi_loopw [3] (fun v wr => PRel (dl s) n₁ J v wr) (fun v _ => szOf v)
  case atStart => exact ⟨[], t, rfl, htz, by rw [HT.out]; rfl, h0, hn₁⟩
  case round =>
    obtain ⟨pre, rest, rfl, hz, hcodes, hJs, hsz⟩ := hrel
    have HCO := Lib.hid hcodes
    clear hcodes h0
    gi_wp2_with fail
    refine ⟨trivial, (callsIn_wide.2 (LastIndex_dot rest _ hz)).mono ?_⟩
    rintro e w1 ⟨r, rfl, hr, rfl⟩
    rcases hr with ⟨rfl, hno⟩ | ⟨a, b, hl, hb, rfl⟩
    · have HN := Lib.hid hno
      clear hno
      obtain ⟨fn, tmps, assign, body, hy, hR⟩ := HY.out pre ⟨rest, hz⟩ wr hJs (pre_lt HCO.out)
      simp only [encS] at hy
      have HCS : Hid ((pre ++ [(⟨rest, hz⟩ : Pt)]).map dp = rpt (trm (dl s))) := Lib.hid (by rw [HCO.out, rpt_one HN.out, List.map_append, List.map_singleton])
      clear hJs
      gi_wp2
      refine hR.mono ?_
      rintro e W3 (⟨rfl, hJ3, hk3⟩ | ⟨rfl, hJx3⟩)
      · gi_wp2
        refine bodyPost_ret (results_none rfl _ _ _) rfl ?_
        exact ⟨⟨_, rfl⟩, .inl ⟨pre ++ [(⟨rest, hz⟩ : Pt)], HCS.out, hJ3⟩⟩
      · gi_wp2
        refine bodyPost_ret (results_none rfl _ _ _) rfl ?_
        exact ⟨⟨_, rfl⟩, .inr ⟨pre ++ [(⟨rest, hz⟩ : Pt)], by rw [HCS.out]; exact List.prefix_refl _, by simp, hJx3⟩⟩
    · have hal : a.length < rest.size := by
        rw [Lib.size_eq, hl]; simp
      have hxe : dl (rest.extract (a.length + 1) rest.size) = b := by
        rw [dl, ext_drop _ _ _ rfl, hl]
        simp
      have hre : dl (rest.extract 0 a.length) = a := by
        rw [dl, ext_take, hl]
        simp
      have hxz : (rest.extract (a.length + 1) rest.size).size ≤ 1000000 := by
        rw [Lib.size_eq, ← dl, hxe]
        have : rest.data.toList.length = rest.size := (Lib.size_eq _).symm
        rw [hl] at this
        simp at this
        omega
      have hrz : (rest.extract 0 a.length).size = a.length := by rw [Lib.size_eq, ← dl, hre]
      have HCS : Hid (rpt (trm (dl s)) = (pre ++ [(⟨rest.extract (a.length + 1) rest.size, hxz⟩ : Pt)]).map dp ++ rpt (dl (rest.extract 0 a.length))) := Lib.hid (by
        rw [HCO.out, dl, hl, rpt_last hb, List.map_append, List.map_singleton, show dp ⟨rest.extract (a.length + 1) rest.size, hxz⟩ = b from hxe, hre, List.append_assoc]
        rfl)
      have HRZ := Lib.hid hrz
      clear hl hb hxe hre hrz
      have h3 : (a.length : Int) + 1 ≤ rest.size := by omega
      obtain ⟨fn, tmps, assign, body, hy, hR⟩ := HY.out pre ⟨rest.extract (a.length + 1) rest.size, hxz⟩ wr hJs (pre_lt HCO.out)
      simp only [encS] at hy
      clear hJs
      gi_wp2
      refine hR.mono ?_
      rintro e W3 (⟨rfl, hJ3, hk3⟩ | ⟨rfl, hJx3⟩)
      · have h4 : ¬ (a.length : Int) < 0 := by omega
        gi_wp2
        go_roundw
        case rel => exact ⟨pre ++ [(⟨rest.extract (a.length + 1) rest.size, hxz⟩ : Pt)], rest.extract 0 a.length, rfl, by rw [HRZ.out]; omega, HCS.out, hJ3, Nat.le_trans hsz hk3.1.size⟩
        case measure => show (rest.extract 0 a.length).size < rest.size; rw [HRZ.out]; exact hal
      · gi_wp2
        refine bodyPost_ret (results_none rfl _ _ _) rfl ?_
        exact ⟨⟨_, rfl⟩, .inr ⟨pre ++ [(⟨rest.extract (a.length + 1) rest.size, hxz⟩ : Pt)], ⟨_, HCS.out.symm⟩, by simp, hJx3⟩⟩

/-- what four.parts hands back, as an iterator -/
theorem parts_stops (n : Nat) (hn : 1 ≤ n) (Bn n₁ : Nat) (s : ByteArray) (hs : s.size ≤ 1000000) (w : World) (hBn : w.heap[Bn]? = some (.cells #[.string s] 9 (0, 0))) (hn₁ : n₁ ≤ w.heap.size) :
    SeqStopsK Fence.wide n Tryd.prog 54 #[.pointer (some ⟨Bn, 0, none⟩)] encS (KpB n₁ Bn) (fun ys => ys.map dp = rpt (trm (dl s))) (fun pre => pre.map dp <+: rpt (trm (dl s)) ∧ pre ≠ []) (rpt (trm (dl s))).length w := fun L J Jx W hW _ _ hY h0 =>
  (parts1_in n hn L Bn n₁ s hs J Jx W hY ((hW.block Bn (Array.getElem?_eq_some_iff.1 hBn).1).trans hBn) (Nat.le_trans hn₁ hW.size) h0).mono fun _ _ h => ⟨h.1, h.2.imp id fun ⟨pre, h1, h2, h3⟩ => ⟨pre, ⟨h1, h2⟩, h3⟩⟩
end Go.Proofs.YtpmdecdjlegcnaaDoor.Fou
