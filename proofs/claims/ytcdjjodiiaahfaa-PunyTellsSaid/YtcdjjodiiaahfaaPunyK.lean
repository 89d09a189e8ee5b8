/-
  The contracts of puny.read and of the iterator that it hands back.
-/
import Derived.Test.YtcdjjodiiaahfaaPunyI
import Derived.Test.YtcdjjodiiaahfaaPunyD
import Derived.Test.YtcdjjodiiaahfaaPunyE
import Derived.Test.YtcdjjodiiaahfaaPunyMath5
import Derived.Test.YtcdjjodiiaahfaaPunyJ
import Derived.Sort.LoopGhostIn
namespace Go.Proofs.Ytcdjjodiiaahfaa
open Go.RowKit Go.Shelf Puny

attribute [local go_sem] Oper.semAt_some

def encs2 (x : Nat × Bool) : Array Value := #[.int .i64 (x.1 : Int), .bool x.2]

set_option maxHeartbeats 1000000 in
theorem read_any (s : ByteArray) (h : Int) (w : World) (n : Nat) :
    CallsIn Fence.wide n Try.prog 31 #[.string s, .int .i64 h] w fun e w' =>
      e = .returned (.func (.func 48) #[] #[.pointer (some ⟨w.heap.size, 0, none⟩), .pointer (some ⟨w.heap.size + 1, 0, none⟩)]) ∧
      w' = (w.alloc (.cells #[.string s] 9)).alloc (.cells #[.int .i64 h] 2) := by
  refine callsIn_of_wp Try.func31 rfl trivial ?_ rfl
  simp only [Try.ntmps31, List.size_toArray, List.length_cons, List.length_nil, Nat.reduceAdd, Nat.reduceSub, Array.replicate_succ, Array.replicate_zero, List.push_toArray, List.append_toArray, List.nil_append, List.cons_append]
  gi_wp2
  go_ret
  exact ⟨rfl, rfl⟩

theorem numR_bad {lead h : Nat} {s : List UInt8} (part : Nat) (hs : s ≠ []) (h0 : (numR lead (many * (h + 1)) s).2 = 0) : numR lead (many * (h + 1)) s = (0, 0) ∧ rdL s h lead part = [(0, false)] := by
  unfold numR at h0 ⊢
  cases hn : num lead 1 s with
  | none => exact ⟨rfl, rdL_none hs hn⟩
  | some r =>
    obtain ⟨d, n⟩ := r
    have := num_back lead s 1 d n hn
    rw [hn] at h0
    simp only at h0 ⊢
    by_cases hlt : d < many * (h + 1)
    · rw [if_pos hlt] at h0; simp only at h0; omega
    · rw [if_neg hlt]; exact ⟨rfl, by rw [rdL_some hs hn, if_neg hlt]⟩
theorem numR_good {lead h d n : Nat} {s : List UInt8} (part : Nat) (hs : s ≠ []) (hn0 : n ≠ 0) (h0 : numR lead (many * (h + 1)) s = (d, n)) :
    d < many * (h + 1) ∧ n ≤ s.length ∧ rdL s h lead part = (d, true) :: rdL (s.drop n) (h + 1) (next d part (h + 1)) 2 := by
  unfold numR at h0
  cases hn : num lead 1 s with
  | none => rw [hn] at h0; simp only at h0; injection h0 with _ h2; exact absurd h2.symm hn0
  | some r =>
    obtain ⟨d', n'⟩ := r
    have hb := num_back lead s 1 d' n' hn
    rw [hn] at h0
    simp only at h0
    by_cases hlt : d' < many * (h + 1)
    · rw [if_pos hlt] at h0
      injection h0 with h1 h2
      subst h1 h2
      exact ⟨hlt, hb.2.2.2, by rw [rdL_some hs hn, if_pos hlt]⟩
    · rw [if_neg hlt] at h0; injection h0 with _ h2; exact absurd h2.symm hn0

/-- what the iterator's own blocks hold -/
def RdW (Bl Bb D H : Nat) (s : ByteArray) (h lead part : Nat) (W : World) : Prop :=
  W.heap[Bl]? = some (.cells #[.string s] 9 (0, 0)) ∧ W.heap[Bl + 1]? = some (.cells #[.int .i64 (h : Int)] 2 (0, 0)) ∧ W.heap[Bb]? = some (.cells #[.int .i64 (lead : Int), .int .i64 (part : Int)] 44 (0, 0)) ∧
  D + 2 ≤ Bb ∧ Bb < H ∧ H ≤ W.heap.size
theorem RdW.kept {n0 n1 Bl Bb D H : Nat} {s : ByteArray} {h lead part : Nat} {W W' : World} (hw : RdW Bl Bb D H s h lead part W) (hk : Kept n0 n1 D H W W') (hB1 : n1 ≤ Bl) (hB2 : Bl + 1 < D) : RdW Bl Bb D H s h lead part W' := by
  obtain ⟨h1, h2, h3, h4, h5, h6⟩ := hw
  exact ⟨(hk.2 Bl (.inr ⟨by omega, by omega, by omega, by omega⟩)).trans h1, (hk.2 (Bl + 1) (.inr ⟨by omega, by omega, by omega, by omega⟩)).trans h2, (hk.2 Bb (.inr ⟨by omega, by omega, by omega, by omega⟩)).trans h3, h4, h5, Nat.le_trans h6 hk.1⟩
theorem RdW.below {Bl Bb D H : Nat} {s : ByteArray} {h lead part : Nat} {W W' : World} (hw : RdW Bl Bb D H s h lead part W) (hB : Below W.heap.size W W') : RdW Bl Bb D H s h lead part W' := by
  obtain ⟨h1, h2, h3, h4, h5, h6⟩ := hw
  exact ⟨(hB.block _ (Array.getElem?_eq_some_iff.1 h1).1).trans h1, (hB.block _ (Array.getElem?_eq_some_iff.1 h2).1).trans h2, (hB.block _ (Array.getElem?_eq_some_iff.1 h3).1).trans h3, h4, h5, Nat.le_trans h6 hB.size⟩

theorem grown_store1 (W : World) (B : Nat) (v : Value) : W.grownBy (W.setCell ⟨B, 1, none⟩ v) (some B) := by
  have h := Free.store1 W B v
  exact ⟨h.1, h.2.1, h.2.2.1, h.2.2.2.1, fun j hj hn => h.2.2.2.2 j hj (fun e => hn (by rw [e]))⟩
theorem RdW.stores {Bl Bb D H : Nat} {s : ByteArray} {h lead part : Nat} {W : World} (hw : RdW Bl Bb D H s h lead part W) (hne : Bb ≠ Bl) (hB2 : Bl + 1 < D) (hDb : D + 2 ≤ Bb) (s' : ByteArray) (x : Nat) :
    RdW Bl Bb D H s' (h + 1) x 2 ((((W.setCell ⟨Bl, 0, none⟩ (.string s')).setCell ⟨Bl + 1, 0, none⟩ (.int .i64 ((h : Int) + 1))).setCell ⟨Bb, 0, none⟩ (.int .i64 (x : Int))).setCell ⟨Bb, 1, none⟩ (.int .i64 2)) := by
  obtain ⟨h1, h2, h3, h4, h5, h6⟩ := hw
  refine ⟨?_, ?_, ?_, h4, h5, by simpa using h6⟩
  · rw [heap_set_ne (by omega), heap_set_ne (by omega), heap_set_ne (by omega)]; exact heap_set1 h1
  · rw [heap_set_ne (by omega), heap_set_ne (by omega)]
    exact heap_set1 ((heap_set_ne (W := W) (o := 0) (v := .string s') (B := Bl + 1) (B' := Bl) (by omega)).trans h2)
  · have h7 := (heap_set_ne (W := (W.setCell ⟨Bl, 0, none⟩ (.string s'))) (o := 0) (v := .int .i64 ((h : Int) + 1)) (B := Bb) (B' := Bl + 1) (by omega)).trans ((heap_set_ne (W := W) (o := 0) (v := .string s') hne).trans h3)
    rw [heap_set21 (heap_set20 h7)]
    rfl

def RRel (s0 : ByteArray) (h0 Bl Bb D H : Nat) (J : Nat → List (Nat × Bool) → World → Prop) (k : Nat) (wr : World) : Prop :=
  ∃ (s : ByteArray) (h lead part : Nat) (pre : List (Nat × Bool)), s.size ≤ k ∧ s.size ≤ s0.size ∧ Hid (rdL s0.data.toList h0 72 700 = pre ++ rdL s.data.toList h lead part) ∧ h = h0 + pre.length ∧ pre.length + s.size ≤ s0.size ∧ lead ≤ 100000000000 ∧ 0 < part ∧
    Hid (J H pre wr) ∧ RdW Bl Bb D H s h lead part wr

theorem str_ne {s : ByteArray} (h : s.size ≠ 0) : s.data.toList ≠ [] := by
  intro e
  have : s.data.toList.length = 0 := by rw [e]; rfl
  simp at this
  exact h (by rw [← ByteArray.size_data, this]; rfl)

set_option maxRecDepth 100000 in
set_option maxHeartbeats 2000000 in
theorem read1_in (n : Nat) (hn : 2 ≤ n) (n0 n1 D Bl h0 : Nat) (s0 : ByteArray) (hs0 : s0.size ≤ 10000) (hh0 : h0 ≤ 10000)
    (hB1 : n1 ≤ Bl) (hB2 : Bl + 1 < D) (W0 : World) (hW0 : W0.heap.size = D + 2)
    (hbl : W0.heap[Bl]? = some (.cells #[.string s0] 9 (0, 0))) (hbh : W0.heap[Bl + 1]? = some (.cells #[.int .i64 (h0 : Int)] 2 (0, 0))) :
    Iter Fence.wide n Try.prog 48 #[.pointer (some ⟨Bl, 0, none⟩), .pointer (some ⟨Bl + 1, 0, none⟩)] encs2 n0 n1 D (fun _ x => x.1 ≤ 30000000000) (fun xs => xs = rdL s0.data.toList h0 72 700) (fun pre => pre <+: rdL s0.data.toList h0 72 700) (s0.size + 1) W0 := by
  intro J Jx hJ hY hst
  have HJ := Lib.hid hJ
  have HY := Lib.hid hY
  have HB := Lib.hid hbl
  have HH := Lib.hid hbh
  have HST := Lib.hid hst
  have hn10 : 1 ≤ n := by omega
  have hn11 : 1 ≤ n - 1 := by omega
  clear hJ hY hbl hbh hst
  refine callsIn_of_wp Try.func48 rfl trivial ?_ rfl
  simp only [Try.ntmps48, List.size_toArray, List.length_cons, List.length_nil, Nat.reduceAdd, Nat.reduceSub, Array.replicate_succ, Array.replicate_zero, List.push_toArray, List.append_toArray, List.nil_append, List.cons_append]
  gi_wp2_with fail
  refine ⟨trivial, (callsIn_wide.2 (firstBias_agg _)).mono ?_⟩
  rintro e w1 ⟨rfl, hB⟩
  gi_wp2_with fail
  have hW1 : D + 2 ≤ w1.heap.size := by have := hB.size; omega
  have hbA : Below W0.heap.size W0 (w1.alloc (.cells #[.int .i64 72, .int .i64 700] 44)) := hB.trans (((Below.refl _ w1).alloc (Nat.le_refl _) _).mono hB.size)
  have hit : RdW Bl w1.heap.size D (w1.heap.size + 1) s0 h0 72 700 (w1.alloc (.cells #[.int .i64 72, .int .i64 700] 44)) :=
    ⟨(hbA.block Bl (by omega)).trans HB.out, (hbA.block (Bl + 1) (by omega)).trans HH.out, World.alloc_heap_new _ _, hW1, by omega, by simp⟩
  have hJ0 : J (w1.heap.size + 1) [] (w1.alloc (.cells #[.int .i64 72, .int .i64 700] 44)) := HJ.out _ [] W0 _ none (HST.out _ (by omega)) ⟨hbA.os, hbA.tape, hbA.output, hbA.size, fun j hj _ => hbA.block j hj⟩ (fun r e => by cases e)
  have HJ0 := Lib.hid hJ0
  have HIT := Lib.hid hit
  clear hbA hJ0 hit hB
  gi_loopg [] (s0.size) (fun k wr => RRel s0 h0 Bl w1.heap.size D (w1.heap.size + 1) J k wr)
  case atStart => exact ⟨s0, h0, 72, 700, [], Nat.le_refl _, Nat.le_refl _, Lib.hid rfl, rfl, by simp, by omega, by omega, HJ0, HIT.out⟩
  case round =>
    obtain ⟨s, h, lead, part, pre, hk, hss, HL, hh, hps, hle, hpp, HJP, hit⟩ := hrel
    have hhb : h ≤ 20000 := by omega
    have HHH := Lib.hid hh
    clear hh
    obtain ⟨c1, f1⟩ := box_cell hit.1
    obtain ⟨c2, f2⟩ := box_cell hit.2.1
    obtain ⟨c30, c31, f30, f31⟩ := blk2 hit.2.2.1
    have HIT2 := Lib.hid hit
    clear HIT HJ0
    by_cases hs : s.size = 0
    · have hsl : s.toList = [] := by rw [Lib.toList_data]; exact List.eq_nil_of_length_eq_zero (by simpa using hs)
      have hse : s.toList.isEmpty = true := by rw [hsl]; rfl
      have hsd : s.data.toList = [] := by rw [← Lib.toList_data]; exact hsl
      have HSD := Lib.hid hsd
      clear hsd hsl
      gi_wp2
      go_end0
      exact ⟨⟨_, rfl⟩, .inl ⟨_, pre, by omega, by rw [HL.out, HSD.out, rdL_nil, List.append_nil], HJP.out⟩⟩
    · have hsne := str_ne hs
      have hse : s.toList.isEmpty = false := by
        rw [Lib.toList_data]; cases hx : s.data.toList with
        | nil => exact absurd hx hsne
        | cons => rfl
      have elim : ((many * (h + 1) : Nat) : Int) = 1114112 * ((h : Int) + 1) := by show ((1114112 * (h + 1) : Nat) : Int) = _; omega
      have hnum := number_any s lead part (many * (h + 1)) wr (by omega) (by omega) (by show 0 < 1114112 * _; omega) (by show 1114112 * _ ≤ _; omega)
      rw [elim] at hnum
      unfold Numbered at hnum
      by_cases h0r : (numR lead (many * (h + 1)) s.data.toList).2 = 0
      · obtain ⟨hr1, hr2⟩ := numR_bad part hsne h0r
        rw [hr1] at hnum
        have hcon : Calls Try.prog 49 #[.string s, .agg #[.int .i64 lead, .int .i64 part], .int .i64 (1114112 * ((h : Int) + 1))] wr fun e w' => e = .returned (.tuple #[.int .i64 0, .int .i64 0]) ∧ Below wr.heap.size wr w' := hnum
        have HCON := Lib.hid hcon
        have HR2 := Lib.hid hr2
        clear hnum hcon hr1 hr2 h0r hsne elim
        gi_wp2_with fail
        refine ⟨trivial, (callsIn_wide.2 HCON.out).mono ?_⟩
        rintro e w2 ⟨rfl, hB2w⟩
        have hit2 := HIT2.out.below hB2w
        have hJ2 : J (w1.heap.size + 1) pre w2 := HJ.out _ pre wr w2 none HJP.out ⟨hB2w.os, hB2w.tape, hB2w.output, hB2w.size, fun j hj _ => hB2w.block j hj⟩ (fun r e => by cases e)
        obtain ⟨fn, tmps, assign, body, hy, hR⟩ := HY.out _ pre (0, false) w2 (by omega) hit2.2.2.2.2.2 hJ2 (by omega) (by simp)
        have hy2 : (Instr.yield (D + 1) #[.int .i64 0, .bool false]).run Try.prog w2 = .ok (.round (D + 1) fn tmps assign body) w2 := hy
        clear hit2 hJ2 hy c1 f1 c2 f2 c30 c31 f30 f31 hit
        gi_wp2
        refine hR.mono ?_
        rintro e W3 (⟨rfl, hJ3, hk3⟩ | ⟨rfl, hJx3⟩)
        · gi_wp2
          refine bodyPost_ret (results_none rfl _ _ _) rfl ?_
          exact ⟨⟨_, rfl⟩, .inl ⟨_, _, by omega, by rw [HL.out, HR2.out], hJ3⟩⟩
        · gi_wp2
          refine bodyPost_ret (results_none rfl _ _ _) rfl ?_
          exact ⟨⟨_, rfl⟩, .inr ⟨_, by rw [HL.out, HR2.out]; exact List.prefix_refl _, hJx3⟩⟩
      · obtain ⟨d, nn, hdn⟩ : ∃ d nn, numR lead (many * (h + 1)) s.data.toList = (d, nn) := ⟨_, _, rfl⟩
        have hnn0 : nn ≠ 0 := by rw [hdn] at h0r; exact h0r
        obtain ⟨hd1, hd2, hd3⟩ := numR_good part hsne hnn0 hdn
        rw [hdn] at hnum
        have hd1' : d < 1114112 * (h + 1) := hd1
        have hns : nn ≤ s.size := by simpa using hd2
        have hcon : Calls Try.prog 49 #[.string s, .agg #[.int .i64 lead, .int .i64 part], .int .i64 (1114112 * ((h : Int) + 1))] wr fun e w' => e = .returned (.tuple #[.int .i64 (d : Int), .int .i64 (nn : Int)]) ∧ Below wr.heap.size wr w' := hnum
        have HCON := Lib.hid hcon
        have HD3 := Lib.hid hd3
        have HLN := Lib.hid (ext_drop s nn s.size rfl)
        have hsz2 : (s.extract nn s.size).size = s.size - nn := by simp
        have HSZ := Lib.hid hsz2
        have hp1 : 0 < (nn : Int) := by omega
        have hp0 : 0 < nn := by omega
        have hp2 : ((nn : Int) == 0) = false := by simp; omega
        have hp3 : (nn : Int) ≤ (s.size : Int) := by omega
        have hpp2 := next_le d part (h + 1)
        have ek : ((h + 1 : Nat) : Int) = (h : Int) + 1 := by omega
        have hfol := fun (u : World) a1 a2 a3 a4 => follow_any w1.heap.size d part (h + 1) (lead : Int) u (by omega) hpp (by omega) (by omega) a1 a2 a3 a4
        simp only [ek] at hfol
        have HFOL := Lib.hid hfol
        have q1 : w1.heap.size ≠ Bl := by omega
        have q2 : w1.heap.size ≠ Bl + 1 := by omega
        clear hnum hcon hd3 hdn h0r hsne elim hd2 hsz2 hd1 hfol ek
        gi_wp2_with fail
        refine ⟨trivial, (callsIn_wide.2 HCON.out).mono ?_⟩
        rintro e w2 ⟨rfl, hB2w⟩
        have hit2 := HIT2.out.below hB2w
        have HIT3 := Lib.hid hit2
        have hJ2 : J (w1.heap.size + 1) pre w2 := HJ.out _ pre wr w2 none HJP.out ⟨hB2w.os, hB2w.tape, hB2w.output, hB2w.size, fun j hj _ => hB2w.block j hj⟩ (fun r e => by cases e)
        obtain ⟨fn, tmps, assign, body, hy, hR⟩ := HY.out _ pre (d, true) w2 (by omega) hit2.2.2.2.2.2 hJ2 (by omega) (by show d ≤ _; omega)
        have hy2 : (Instr.yield (D + 1) #[.int .i64 (d : Int), .bool true]).run Try.prog w2 = .ok (.round (D + 1) fn tmps assign body) w2 := hy
        clear hit2 hJ2 hy c1 f1 c2 f2 c30 c31 f30 f31 hit
        gi_wp2_with fail
        refine hR.mono ?_
        rintro e W3 (⟨rfl, hJ3, hk3⟩ | ⟨rfl, hJx3⟩)
        · have hit4 := HIT3.out.kept hk3 hB1 hB2
          have hJ4 : J (w1.heap.size + 1) (pre ++ [(d, true)]) ((((W3.setCell ⟨Bl, 0, none⟩ (.string (s.extract nn s.size))).setCell ⟨Bl + 1, 0, none⟩ (.int .i64 ((h : Int) + 1))).setCell ⟨w1.heap.size, 0, none⟩ (.int .i64 (next d part (h + 1) : Nat))).setCell ⟨w1.heap.size, 1, none⟩ (.int .i64 2)) := by
            have a1 := HJ.out _ _ _ _ (some Bl) hJ3 (grownBy_setCell' W3 Bl (.string (s.extract nn s.size))) (fun r e => by cases e; exact ⟨by omega, by omega, by omega, by omega⟩)
            have a2 := HJ.out _ _ _ _ (some (Bl + 1)) a1 (grownBy_setCell' _ (Bl + 1) (.int .i64 ((h : Int) + 1))) (fun r e => by cases e; exact ⟨by omega, by omega, by omega, by omega⟩)
            have a3 := HJ.out _ _ _ _ (some w1.heap.size) a2 (grownBy_setCell' _ w1.heap.size (.int .i64 (next d part (h + 1) : Nat))) (fun r e => by cases e; exact ⟨by omega, by omega, by omega, by omega⟩)
            exact HJ.out _ _ _ _ (some w1.heap.size) a3 (grown_store1 _ w1.heap.size (.int .i64 2)) (fun r e => by cases e; exact ⟨by omega, by omega, by omega, by omega⟩)
          have hit5 := hit4.stores (by omega) hB2 hW1 (s.extract nn s.size) (next d part (h + 1))
          have HIT5 := Lib.hid hit5
          have HJ4 := Lib.hid hJ4
          obtain ⟨c1, f1⟩ := box_cell hit4.1
          obtain ⟨c2, f2⟩ := box_cell hit4.2.1
          obtain ⟨c30, c31, f30, f31⟩ := blk2 hit4.2.2.1
          clear hit4 hit5 hJ4 hJ3 hk3
          gi_wp2_with (first
            | (refine ⟨trivial, ?_⟩; gi_at_call 24; refine (callsIn_wide.2 (HFOL.out _ (by rw [cell_set_ne q2, cell_set_ne q1]; exact c30) (by rw [cell_set_ne q2, cell_set_ne q1]; exact c31) (by rw [frozen_set_ne q2, frozen_set_ne q1]; exact f30) (by rw [frozen_set_ne q2, frozen_set_ne q1]; exact f31))).mono ?_; rintro e X3 ⟨rfl, rfl⟩)
            | fail)
          gi_roundg (s.size - nn)
          case measure => omega
          case rel =>
            exact ⟨s.extract nn s.size, h + 1, next d part (h + 1), 2, pre ++ [(d, true)], by rw [HSZ.out]; exact Nat.le_refl _, by rw [HSZ.out]; omega, Lib.hid (by rw [HL.out, HD3.out, HLN.out]; simp), by have := HHH.out; simp; omega, by rw [HSZ.out]; simp; omega, by omega, by omega, HJ4, HIT5.out⟩
        · gi_wp2
          refine bodyPost_ret (results_none rfl _ _ _) rfl ?_
          exact ⟨⟨_, rfl⟩, .inr ⟨_, ⟨rdL ((s.data.toList).drop nn) (h + 1) (next d part (h + 1)) 2, by rw [HL.out, HD3.out]; simp⟩, hJx3⟩⟩
end Go.Proofs.Ytcdjjodiiaahfaa
