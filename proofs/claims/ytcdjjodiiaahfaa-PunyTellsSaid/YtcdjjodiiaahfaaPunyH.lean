/-
  The contracts of puny.deltas and of the iterator that it hands back.
-/
import Derived.Test.YtcdjjodiiaahfaaPunyG
import Derived.Test.YtcdjjodiiaahfaaPunyMath3
import Derived.Test.YtcdjjodiiaahfaaIterLaw
import Derived.Shelf.Abstract
import Derived.Shelf.RegionOpen
import Derived.OwnWalkIn
import Derived.TacticsInMore
import Derived.LoopNIn
import Derived.LoopIn
namespace Go.Proofs.Ytcdjjodiiaahfaa
open Go.RowKit Go.Shelf Puny

attribute [local go_sem] Oper.semAt_some

def encs (d : Nat) : Array Value := #[.int .i64 (d : Int)]

theorem own_of_heap {w w' : World} {base : Nat} {e : TypeId} {size n : Nat} {v : Value} {xs : List Value} (h : w.ownsRow base e size v n xs) (hk : ∀ j, v.ownBlock = some j → w'.heap[j]? = w.heap[j]?) : w'.ownsRow base e size v n xs := by
  refine ⟨h.1, ?_⟩
  rcases h.2 with h2 | ⟨g, cap, cur, hv, hb, hg, h3, h4, h5, h6⟩
  · exact .inl h2
  · refine .inr ⟨g, cap, cur, hv, hb, ?_, h3, h4, h5, h6⟩
    subst hv
    rw [hk g rfl, hg]
theorem Row.keepBlocks {w w' : World} {B : Nat} {A : Option Addr} {xs : List Value} (h : Row w B A xs) (hk : ∀ j, j < B → w'.heap[j]? = w.heap[j]?) : Row w' B A xs :=
  h.keep fun b o hb => World.cell?_of_block (a := ⟨b, o, none⟩) (hk b hb)

set_option maxHeartbeats 1000000 in
theorem deltas_any (A : Option Addr) (len cap : Nat) (h : Int) (w : World) (n : Nat) :
    CallsIn Fence.wide n Try.prog 22 #[.slice A len cap, .int .i64 h] w fun e w' =>
      e = .returned (.func (.func 43) #[] #[.pointer (some ⟨w.heap.size, 0, none⟩), .pointer (some ⟨w.heap.size + 1, 0, none⟩)]) ∧
      w' = (w.alloc (.cells #[.slice A len cap] 22)).alloc (.cells #[.int .i64 h] 2) := by
  refine callsIn_of_wp Try.func22 rfl trivial ?_ rfl
  simp only [Try.ntmps22, List.size_toArray, List.length_cons, List.length_nil, Nat.reduceAdd, Nat.reduceSub, Array.replicate_succ, Array.replicate_zero, List.push_toArray, List.append_toArray, List.nil_append, List.cons_append]
  gi_wp2
  go_ret
  exact ⟨rfl, rfl⟩

/-- what the iterator's own blocks hold -/
def ItW (l : List Nat) (A : Option Addr) (len cap n0 Bl base H : Nat) (v : Value) (h : Nat) (W : World) : Prop :=
  Row W n0 A (cn l) ∧ W.heap[Bl]? = some (.cells #[.slice A len cap] 22 (0, 0)) ∧ W.heap[Bl + 1]? = some (.cells #[.int .i64 (h : Int)] 2 (0, 0)) ∧
  W.ownsRow base 21 1 v (ms l).length (cn (ms l)) ∧ (∀ j, v.ownBlock = some j → j < H) ∧ H ≤ W.heap.size
theorem ItW.kept {l : List Nat} {A : Option Addr} {len cap n0 n1 D Bl base H : Nat} {v : Value} {h : Nat} {W W' : World} (hw : ItW l A len cap n0 Bl base H v h W) (hk : Kept n0 n1 D H W W') (hB1 : n1 ≤ Bl) (hB2 : Bl + 1 < D) (hbD : base = D + 2) (hH : D + 2 ≤ H) :
    ItW l A len cap n0 Bl base H v h W' := by
  obtain ⟨h1, h2, h3, h4, h5, h6⟩ := hw
  refine ⟨h1.keepBlocks (fun j hj => hk.2 j (.inl hj)), (hk.2 Bl (.inr ⟨by omega, by omega, by omega, by omega⟩)).trans h2, (hk.2 (Bl + 1) (.inr ⟨by omega, by omega, by omega, by omega⟩)).trans h3,
    own_of_heap h4 (fun j hj => hk.2 j (.inr ?_)), h5, Nat.le_trans h6 hk.1⟩
  have := h4.lt j hj
  have := h5 j hj
  exact ⟨by omega, by omega, by omega, by omega⟩
theorem ItW.count {l : List Nat} {A : Option Addr} {len cap n0 Bl base H : Nat} {v : Value} {h : Nat} {W : World} (hw : ItW l A len cap n0 Bl base H v h W) (x : Nat) (hn0 : n0 ≤ Bl) (hb : Bl + 2 < base) :
    ItW l A len cap n0 Bl base H v x (W.setCell ⟨Bl + 1, 0, none⟩ (.int .i64 (x : Int))) := by
  obtain ⟨h1, h2, h3, h4, h5, h6⟩ := hw
  have hg := grownBy_setCell' W (Bl + 1) (.int .i64 (x : Int))
  have hlt := (Array.getElem?_eq_some_iff.1 h3).1
  refine ⟨h1.keepBlocks (fun j hj => ?_), ?_, ?_, own_of_heap h4 (fun j hj => ?_), h5, Nat.le_trans h6 hg.size⟩
  · by_cases hj2 : j < W.heap.size
    · exact hg.block j hj2 (by simp; omega)
    · exact absurd hlt (by omega)
  · exact (hg.block Bl (Array.getElem?_eq_some_iff.1 h2).1 (by simp)).trans h2
  · simp [World.setCell, Array.getElem?_modify, h3]
  · have h7 := h4.lt j hj
    exact hg.block j h7.2 (by simp; omega)

def ORel (l : List Nat) (A : Option Addr) (len cap n0 Bl base H : Nat) (v : Value) (J : Nat → List Nat → World → Prop) (s4 s5 s14 : Value) (wr : World) : Prop :=
  ∃ a n i : Nat, a ≤ (ms l).length ∧ s14 = .int .i64 a ∧ s4 = .int .i64 n ∧ s5 = .int .i64 i ∧ fin (eat l a) 128 0 = (n, i) ∧ (∀ y ∈ (ms l).drop a, n < y ∨ n ≤ y ∧ i = 0) ∧ i ≤ hat l a ∧ hat l a = (basics l).length + (eat l a).length ∧
    J H (dels (eat l a) (basics l).length 128 0) wr ∧ ItW l A len cap n0 Bl base H v (hat l a) wr
def IRel (l : List Nat) (A : Option Addr) (len cap n0 Bl base H : Nat) (v : Value) (J : Nat → List Nat → World → Prop) (a m : Nat) (s4 s5 s8 s20 : Value) (wr : World) : Prop :=
  ∃ b n i p q : Nat, b ≤ len ∧ s20 = .int .i64 b ∧ s8 = .int .i64 p ∧ s4 = .int .i64 n ∧ s5 = .int .i64 i ∧ Hid (pat l m b = p) ∧ Hid (qat l m b = q) ∧ Hid (fin (eat l a ++ scan m (l.take b) 0) 128 0 = (n, i)) ∧
    n ≤ m ∧ (n < m ∧ i ≤ p + q ∨ n = m ∧ i ≤ p) ∧ p + q ≤ len ∧ Hid (p + q = (basics l).length + (eat l a ++ scan m (l.take b) 0).length) ∧
    Hid (J H (dels (eat l a ++ scan m (l.take b) 0) (basics l).length 128 0) wr) ∧ ItW l A len cap n0 Bl base H v (p + q) wr

set_option maxRecDepth 100000 in
set_option maxHeartbeats 2000000 in
theorem deltas1_in (N : Nat) (hS : SortOk N) (hN : N ≤ 100000) (n : Nat) (hn : 1 ≤ n) (n0 n1 D Bl : Nat) (A : Option Addr) (len cap : Nat) (l : List Nat) (hlen : l.length = len) (ho : (oth l len).length ≤ N) (hm : len ≤ 2000) (hsc : ∀ x ∈ l, x ≤ 1114111)
    (hnn : n0 ≤ n1) (hB1 : n1 ≤ Bl) (hB2 : Bl + 1 < D) (W0 : World) (hW0 : W0.heap.size = D + 2) (hr : Row W0 n0 A (cn l))
    (hbl : W0.heap[Bl]? = some (.cells #[.slice A len cap] 22 (0, 0))) (hbh : W0.heap[Bl + 1]? = some (.cells #[.int .i64 ((basics l).length : Int)] 2 (0, 0))) :
    Iter Fence.wide n Try.prog 43 #[.pointer (some ⟨Bl, 0, none⟩), .pointer (some ⟨Bl + 1, 0, none⟩)] encs n0 n1 D (fun _ d => d ≤ 3000000000) (fun xs => xs = deltas l) (fun _ => True) len W0 := by
  intro J Jx hJ hY h0
  have hml : (ms l).length ≤ 2000 := Nat.le_trans (ms_len l) (by omega)
  have HLEN := Lib.hid hlen
  have HSC := Lib.hid hsc
  have HJ := Lib.hid hJ
  have HY := Lib.hid hY
  have hoth := others_any N hS hN l A len cap W0 hlen ho (by omega) (hr.mono (by omega))
  have HO := Lib.hid hoth
  have HR := Lib.hid hr
  have HB := Lib.hid hbl
  have HH := Lib.hid hbh
  have H0 := Lib.hid h0
  have c1 : W0.cell? ⟨Bl, 0, none⟩ = some (.slice A len cap) := by simp [World.cell?, hbl]
  clear hlen hsc hJ hY hoth hS hr hbl hbh h0
  refine callsIn_of_wp Try.func43 rfl trivial ?_ rfl
  simp only [Try.ntmps43, List.size_toArray, List.length_cons, List.length_nil, Nat.reduceAdd, Nat.reduceSub, Array.replicate_succ, Array.replicate_zero, List.push_toArray, List.append_toArray, List.nil_append, List.cons_append]
  gi_wp2_with fail
  refine ⟨trivial, (callsIn_wide.2 HO.out).mono ?_⟩
  rintro e W1 ⟨v, rfl, hown, hB⟩
  clear c1
  obtain ⟨g, mc, rfl⟩ : ∃ g mc, v = .slice g (ms l).length mc := by
    rcases hown.2 with ⟨hv, h0⟩ | ⟨g, c, cur, hv, _⟩
    · exact ⟨none, 0, by rw [hv, h0]⟩
    · exact ⟨_, _, hv⟩
  have hsz := hB.size
  have hit : ItW l A len cap n0 Bl W0.heap.size W1.heap.size (.slice g (ms l).length mc) (hat l 0) W1 := by
    refine ⟨HR.out.below (hB.mono (by omega)), (hB.block Bl (by omega)).trans HB.out, ?_, hown, fun j hj => (hown.lt j hj).2, Nat.le_refl _⟩
    rw [hat_zero]; exact (hB.block (Bl + 1) (by omega)).trans HH.out
  have hJ0 : J W1.heap.size [] W1 := HJ.out _ [] W0 W1 none (H0.out _ hsz) ⟨hB.os, hB.tape, hB.output, hB.size, fun j hj _ => hB.block j hj⟩ (fun r e => by cases e)
  obtain ⟨H, hH⟩ : ∃ H, W1.heap.size = H := ⟨_, rfl⟩
  rw [hH] at hit hJ0 hsz
  clear hown hB
  gi_wp2
  gi_loopw [4, 5, 14] (fun s4 s5 s14 wr => ORel l A len cap n0 Bl W0.heap.size H (.slice g (ms l).length mc) J s4 s5 s14 wr) (fun _ _ s14 _ => (ms l).length - (intOf s14).toNat)
  case atStart =>
    exact ⟨0, 128, 0, Nat.zero_le _, rfl, rfl, rfl, rfl, fun y hy => .inr ⟨((ms_mem l y).1 (List.mem_of_mem_drop hy)).2, rfl⟩, Nat.zero_le _, by rw [hat_zero]; rfl, hJ0, hit⟩
  case round =>
    obtain ⟨a, n, i, ha, rfl, rfl, rfl, hfin, hny, hih, hhat, hJs, hit⟩ := hrel
    clear hJ0
    by_cases hlt : a < (ms l).length
    · have hrow := (Row.of_own hit.2.2.2.1)
      obtain ⟨gb, go, rfl, hgb, hgc⟩ := hrow.at_ (by simp; omega)
      have hcm := hgc a (by simpa using hlt)
      rw [cn_get _ _ hlt] at hcm
      have c1 : wr.cell? ⟨Bl, 0, none⟩ = some (.slice A len cap) := by simp [World.cell?, hit.2.1]
      have hs0 := hat_start l hlt
      have hd0 := hat_done l hlt
      have he0 := eat_step l hlt
      have hmm := (ms_mem l _).1 (List.getElem_mem hlt)
      have hny1 := hny _ (by rw [drop_cons hlt]; exact List.mem_cons_self ..)
      have hnext : ∀ y ∈ (ms l).drop (a + 1), (ms l)[a] < y := by
        have hp := (ms_rise l).drop (i := a)
        rw [drop_cons hlt, List.pairwise_cons] at hp
        exact hp.1
      obtain ⟨m, hmeq⟩ : ∃ m, (ms l)[a] = m := ⟨_, rfl⟩
      rw [hmeq] at hcm hs0 hd0 he0 hmm hny1 hnext
      have hmax := HSC.out m hmm.1
      have HNEXT := Lib.hid hnext
      have HS0 := Lib.hid hs0
      have HD0 := Lib.hid hd0
      have HE0 := Lib.hid he0
      have HFIN := Lib.hid hfin
      have HHAT := Lib.hid hhat
      have HJS := Lib.hid hJs
      have HIT := Lib.hid hit
      clear hrow hgc hnext hs0 hd0 he0 hfin hhat hJs hit hny hmeq
      gi_wp2
      gi_loopw [4, 5, 8, 20] (fun s4 s5 s8 s20 wr2 => IRel l A len cap n0 Bl W0.heap.size H (.slice (some ⟨gb, go, none⟩) (ms l).length mc) J a m s4 s5 s8 s20 wr2) (fun _ _ _ s20 _ => len - (intOf s20).toNat)
      case atStart =>
        refine ⟨0, n, i, 0, hat l a, Nat.zero_le _, rfl, rfl, rfl, rfl, Lib.hid (by simp [pat]), Lib.hid (by rw [HS0.out]; simp [pat]), Lib.hid (by simpa [scan] using HFIN.out), by omega, by omega, ?_, Lib.hid (by rw [HHAT.out]; simp [scan]), Lib.hid (by simpa [scan] using HJS.out), by simpa using HIT.out⟩
        have := pq_le l m 0 (Nat.zero_le _)
        rw [HS0.out, ← HLEN.out]; simpa [pat] using this
      case round =>
        obtain ⟨b, n, i, p, q, hb, rfl, rfl, rfl, rfl, HP, HQ, HF, hnm, hni, hpq, HE, HJ2, hit⟩ := hrel
        by_cases hlb : b < len
        · have hbl : b < l.length := by rw [HLEN.out]; exact hlb
          obtain ⟨lb, lo, rfl, hlb0, hlc⟩ := hit.1.at_ (by simp; omega)
          have hcr := hlc b (by simpa using hbl)
          rw [cn_get _ _ hbl] at hcr
          have hst := scan_take (m := m) hbl
          have hpl := pat_le_step (m := m) hbl
          have hpg := pat_gt_step (m := m) hbl
          have hql := qat_lt_step (m := m) hbl
          have hqg := qat_ge_step (m := m) hbl
          have hpq1 := pq_le l m (b + 1) (by omega)
          rw [HP.out] at hst hpl hpg
          rw [HQ.out] at hql hqg
          rw [HLEN.out] at hpq1
          obtain ⟨r, hrq⟩ : ∃ r, l[b] = r := ⟨_, rfl⟩
          rw [hrq] at hcr hst hpl hpg hql hqg
          obtain ⟨h, hh⟩ : ∃ h, p + q = h := ⟨_, rfl⟩
          rw [hh] at hit hpq hni HE
          have HST := Lib.hid hst
          clear hst hrq hlc hgb
          rcases Nat.lt_trichotomy r m with hrm | hrm | hrm
          · have hne : ((r : Int) == (m : Int)) = false := by simp; omega
            have hp1 := hpl (by omega)
            have hq1 := hql hrm
            have HP1 := Lib.hid hp1
            have HQ1 := Lib.hid hq1
            rw [hp1] at hpq1
            clear hpl hpg hql hqg hp1 hq1
            gi_wp2
            go_roundw
            case rel =>
              refine ⟨b + 1, n, i, p + 1, qat l m (b + 1), by omega, by go_num, by go_num, rfl, rfl, Lib.hid HP1.out, Lib.hid rfl, ?_, hnm, ?_, by have := HQ1.out; omega, ?_, ?_, ?_⟩
              · exact Lib.hid (by rw [HST.out, if_neg (by omega), List.append_nil]; exact HF.out)
              · have := HQ1.out; omega
              · exact Lib.hid (by have := HQ1.out; rw [HST.out, if_neg (by omega), List.append_nil, ← HE.out]; omega)
              · exact Lib.hid (by rw [HST.out, if_neg (by omega), List.append_nil]; exact HJ2.out)
              · rw [show p + 1 + qat l m (b + 1) = h by have := HQ1.out; omega]; exact hit
            case measure => simp [intOf]; omega
          · subst hrm
            have hp1 := hpl (Nat.le_refl _)
            have hq1 := hqg (Nat.lt_irrefl _)
            have HP1 := Lib.hid hp1
            have HQ1 := Lib.hid hq1
            rw [hp1, ← hq1] at hpq1
            clear hpl hpg hql hqg hp1 hq1
            have hst2 : eat l a ++ scan r (l.take (b + 1)) 0 = (eat l a ++ scan r (l.take b) 0) ++ [(r, p)] := by rw [HST.out, if_pos rfl, List.append_assoc]
            have hdl := dels_snoc (eat l a ++ scan r (l.take b) 0) (basics l).length 128 0 r p
            have hfs := fin_snoc (eat l a ++ scan r (l.take b) 0) 128 0 r p
            have hls : (eat l a ++ scan r (l.take (b + 1)) 0).length = (eat l a ++ scan r (l.take b) 0).length + 1 := by rw [hst2]; simp; omega
            have hel := dels_len (eat l a ++ scan r (l.take b) 0) (basics l).length 128 0
            rw [HF.out, ← HE.out] at hdl
            rw [← hst2] at hdl hfs
            dsimp only at hdl
            have hub : (r - n) * (h + 1) ≤ 1114111 * (h + 1) := Nat.mul_le_mul_right _ (by omega)
            have hul : n < r → h + 1 ≤ (r - n) * (h + 1) := fun hx => Nat.le_mul_of_pos_left _ (by omega)
            have hui : ((r : Int) - (n : Int)) * ((h : Int) + 1) = (((r - n) * (h + 1) : Nat) : Int) := by
              rw [show (r : Int) - (n : Int) = ((r - n : Nat) : Int) by omega, show (h : Int) + 1 = ((h + 1 : Nat) : Int) by omega, Int.natCast_mul]
            obtain ⟨u, hu⟩ : ∃ u, (r - n) * (h + 1) = u := ⟨_, rfl⟩
            rw [hu] at hub hul hui hdl
            have hdi : (u : Int) + (p : Int) - (i : Int) = ((u + p - i : Nat) : Int) := by omega
            obtain ⟨d, hd⟩ : ∃ d, u + p - i = d := ⟨_, rfl⟩
            rw [hd] at hdi hdl
            have HDL := Lib.hid hdl
            have HFS := Lib.hid hfs
            have HLS := Lib.hid hls
            obtain ⟨fn, tmps, assign, body, hy, hR⟩ := HY.out H _ d wr hsz hit.2.2.2.2.2 HJ2.out (by rw [hel]; have := HE.out; omega) (by omega)
            simp only [encs] at hy
            have c2 : wr.cell? ⟨Bl + 1, 0, none⟩ = some (.int .i64 (h : Int)) := by simp [World.cell?, hit.2.2.1]
            have HIT2 := Lib.hid hit
            clear hst2 hdl hfs hls hel hu hd hit hul
            gi_wp2
            refine hR.mono ?_
            rintro e W3 (⟨rfl, hJ3, hk3⟩ | ⟨rfl, hJx3⟩)
            · have hit3 := HIT2.out.kept hk3 hB1 hB2 hW0 (by omega)
              have c3 : W3.cell? ⟨Bl + 1, 0, none⟩ = some (.int .i64 (h : Int)) := by simp [World.cell?, hit3.2.2.1]
              have f3 : W3.frozen? ⟨Bl + 1, 0, none⟩ = false := by simp [World.frozen?, hit3.2.2.1]
              have hJ4 := HJ.out H _ W3 _ (some (Bl + 1)) hJ3 (grownBy_setCell' W3 (Bl + 1) (.int .i64 ((h + 1 : Nat) : Int))) (fun x e => by cases e; exact ⟨by omega, by omega, by omega, by omega⟩)
              have hit4 := hit3.count (h + 1) (by omega) (by omega)
              have HJ4 := Lib.hid hJ4
              have HIT4 := Lib.hid hit4
              clear hit3 hJ3 hJ4 hit4 hk3
              gi_wp2
              go_roundw
              case rel =>
                refine ⟨b + 1, r, p + 1, p + 1, q, by omega, by go_num, by go_num, rfl, by go_num, Lib.hid HP1.out, Lib.hid HQ1.out.symm, Lib.hid HFS.out, Nat.le_refl _, .inr ⟨rfl, Nat.le_refl _⟩, by omega, ?_, ?_, ?_⟩
                · exact Lib.hid (by rw [HLS.out, show p + 1 + q = h + 1 by omega, HE.out]; omega)
                · refine Lib.hid ?_
                  rw [HDL.out]
                  exact HJ4.out
                · rw [show p + 1 + q = h + 1 by omega]
                  exact HIT4.out
              case measure => simp [intOf]; omega
            · gi_wp2
              refine bodyPost_ret (results_none rfl _ _ _) rfl ?_
              exact ⟨⟨_, rfl⟩, .inr ⟨_, trivial, hJx3⟩⟩
          · have hne : ((r : Int) == (m : Int)) = false := by simp; omega
            have hp1 := hpg (by omega)
            have hq1 := hqg (by omega)
            have HP1 := Lib.hid hp1
            have HQ1 := Lib.hid hq1
            clear hpl hpg hql hqg hp1 hq1
            gi_wp2
            go_roundw
            case rel =>
              refine ⟨b + 1, n, i, p, q, by omega, by go_num, by go_num, rfl, rfl, Lib.hid HP1.out, Lib.hid HQ1.out.symm, ?_, hnm, by omega, by omega, ?_, ?_, ?_⟩
              · exact Lib.hid (by rw [HST.out, if_neg (by omega), List.append_nil]; exact HF.out)
              · exact Lib.hid (by rw [HST.out, if_neg (by omega), List.append_nil, hh]; exact HE.out)
              · exact Lib.hid (by rw [HST.out, if_neg (by omega), List.append_nil]; exact HJ2.out)
              · rw [hh]; exact hit
            case measure => simp [intOf]; omega
        · obtain rfl : b = len := by omega
          have HT := Lib.hid (show l.take b = l by rw [List.take_of_length_le (by rw [HLEN.out]; exact Nat.le_refl _)])
          have HD1 := Lib.hid (show hat l (a + 1) = p + q by have := HD0.out; rw [HLEN.out, HP.out, HQ.out] at this; exact this)
          gi_wp2
          go_roundw
          case rel =>
            refine ⟨a + 1, n, i, by omega, by go_num, rfl, rfl, ?_, fun y hy => .inl (by have := HNEXT.out y hy; omega), by rw [HD1.out]; omega, ?_, ?_, ?_⟩
            · have := HF.out; rw [HT.out] at this; rw [HE0.out]; exact this
            · have := HE.out; rw [HT.out] at this; rw [HE0.out, HD1.out]; exact this
            · have := HJ2.out; rw [HT.out] at this; rw [HE0.out]; exact this
            · rw [HD1.out]; exact hit
          case measure => simp [intOf]; omega
    · obtain rfl : a = (ms l).length := by omega
      gi_wp2
      go_end0
      refine ⟨⟨_, rfl⟩, .inl ⟨H, _, by omega, ?_, hJs⟩⟩
      rw [eat_all]; rfl
end Go.Proofs.Ytcdjjodiiaahfaa
