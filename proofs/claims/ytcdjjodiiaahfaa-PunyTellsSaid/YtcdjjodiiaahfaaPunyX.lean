/-
  The document's own answer of layer 4: step, ahead; the places of those that are not basic, by scalars, then places.
-/
import Derived.Test.YtcdjjodiiaahfaaPunyW
namespace Go.Proofs.Ytcdjjodiiaahfaa
open Go.RowKit Go.Shelf Puny

theorem one_sgn (d : Nat) : strOfNums [sgn d] = bs [sign d] := bs_eq (by rw [byte_data]; unfold sgn; simp)
def Told (L : List UInt8) (w : World) (e : Ending) (w' : World) : Prop := e = .returned (.string (bs L)) ∧ Below w.heap.size w w'
theorem told_mk {s : ByteArray} {L : List UInt8} {w w' : World} (h : s = bs L) (hB : Below w.heap.size w w') : Told L w (.returned (.string s)) w' := ⟨by rw [h], hB⟩

set_option maxRecDepth 100000 in
set_option maxHeartbeats 1000000 in
theorem rStep_any (d lead : Nat) (w : World) (hd : d ≤ 3000000000) (hl : lead ≤ 1000000000000) :
    Calls Try.prog 28 #[.int .i64 d, .int .i64 lead] w (Told ((digs lead 1 d).map sign) w) := by
  obtain ⟨R, hR⟩ : ∃ R, (digs lead 1 d).map sign = R := ⟨_, rfl⟩
  rw [hR]
  have HR := Lib.hid hR
  clear hR
  go_enter Try.func28, Try.ntmps28
  go_wp2
  go_loopg [0, 5, 6] (0 + d) (fun k s0 s5 s6 wr => ∃ (dd kk : Nat) (L : List UInt8), s0 = .int .i64 (dd : Int) ∧ s5 = .string (bs L) ∧ s6 = .int .i64 (kk : Int) ∧ k = 0 + dd ∧ 1 ≤ kk ∧ dd + kk ≤ d + 1 ∧ L.length ≤ kk ∧ Hid (L ++ (digs lead kk dd).map sign = R) ∧ Below w.heap.size w wr)
  case atStart => exact ⟨d, 1, [], rfl, rfl, rfl, rfl, by omega, by omega, by simp, HR, Below.refl _ _⟩
  case round =>
    obtain ⟨dd, kk, L, rfl, rfl, rfl, rfl, hk1, hdk, hL, HL, hB⟩ := hrel
    have ht1 := thr_lo lead kk
    have ht2 := thr_hi lead kk
    obtain ⟨t, ht⟩ : ∃ t, thr lead kk = t := ⟨_, rfl⟩
    have hcall := rThreshold_any kk lead wr (by omega) hl
    rw [ht] at hcall ht1 ht2
    have HC := Lib.hid hcall
    have HT := Lib.hid ht
    clear hcall ht
    have hsz : (bs L).size ≤ 3000000010 := by rw [bs_size]; omega
    by_cases hlt : dd < t
    · have hz : (dd : Int) < (t : Int) := by omega
      have hcv := conv_byte (sgn dd) wr
      have hs1 := strOf1_size (sgn dd)
      have HD := Lib.hid (rDigit_any dd wr (by omega))
      go_wp2_with (first
        | (go_at_call 46; refine HC.out.mono ?_; rintro e w' ⟨rfl, rfl⟩)
        | (go_at_call 47; refine HD.out.mono ?_; rintro e w' ⟨rfl, rfl⟩)
        | fail)
      go_ret
      exact told_mk (by rw [one_sgn, bs_app, ← HL.out, digs_last (by rw [HT.out]; exact hlt)]; rfl) (hB.alloc hB.size _)
    · have hz : ¬ (dd : Int) < (t : Int) := by omega
      obtain ⟨u, hu⟩ : ∃ u, dd = t + u := ⟨dd - t, by omega⟩
      obtain ⟨v, hv⟩ : ∃ v, 36 = t + v := ⟨36 - t, by omega⟩
      have hvz : (36 : Int) - (t : Int) = (v : Int) := by omega
      have hv10 : 10 ≤ v := by omega
      have hm1 : (u : Int).tmod (v : Int) = ((u % v : Nat) : Int) := by rw [Int.tmod_eq_emod_of_nonneg (by omega)]; simp
      have hd1 : (u : Int).tdiv (v : Int) = ((u / v : Nat) : Int) := by rw [Int.tdiv_eq_ediv_of_nonneg (by omega)]; simp
      have hmlt : u % v < v := Nat.mod_lt _ (by omega)
      have hdle : u / v ≤ u := Nat.div_le_self _ _
      have HDG : Hid ((digs lead kk dd) = (t + u % v) :: digs lead (kk + 1) (u / v)) := Lib.hid (by
        rw [digs_more (by rw [HT.out]; exact hlt), HT.out]
        rw [show dd - t = u by omega, show 36 - t = v by omega])
      obtain ⟨x, hx⟩ : ∃ x, u % v = x := ⟨_, rfl⟩
      obtain ⟨y, hy⟩ : ∃ y, u / v = y := ⟨_, rfl⟩
      rw [hx] at hm1 hmlt HDG
      rw [hy] at hd1 hdle HDG
      clear hx hy
      subst hu
      clear hv
      have hvn : ¬ (v : Int) = 0 := by omega
      have hvb : ((v : Int) == 0) = false := by simp; omega
      have htu : ((t + u : Nat) : Int) - (t : Int) = (u : Int) := by omega
      have htu2 : (t : Int) + (u : Int) - (t : Int) = (u : Int) := by omega
      have wx : IntKind.i64.wrap (x : Int) = (x : Int) := IntWalk.i64_in _ (by omega)
      have wy : IntKind.i64.wrap (y : Int) = (y : Int) := IntWalk.i64_in _ (by omega)
      have hcv := conv_byte (sgn (t + x)) wr
      have hs1 := strOf1_size (sgn (t + x))
      have hcall := rDigit_any (t + x) wr (by omega)
      have e1 : (((t + x : Nat) : Nat) : Int) = (t : Int) + (x : Int) := by omega
      rw [e1] at hcall
      have HD := Lib.hid hcall
      clear hcall e1
      go_wp2_with (first
        | (go_at_call 46; refine HC.out.mono ?_; rintro e w' ⟨rfl, rfl⟩)
        | (go_at_call 47; refine HD.out.mono ?_; rintro e w' ⟨rfl, rfl⟩)
        | fail)
      go_roundg (0 + y)
      case measure => omega
      case rel => exact ⟨y, kk + 1, L ++ [sign (t + x)], by first | rfl | go_num, by rw [one_sgn, bs_app], by go_num, rfl, by omega, by omega, by rw [List.length_append, List.length_singleton]; omega, Lib.hid (by rw [← HL.out, HDG.out]; simp), hB.alloc hB.size _⟩

set_option maxRecDepth 100000 in
theorem rAhead_any (l : List Nat) (A : Option Addr) (n c m k : Nat) (w : World) (hn : l.length = n) (hn1 : n ≤ 100000) (hk : k ≤ n) (hr : Row w w.heap.size A (cn l)) :
    Calls Try.prog 27 #[.slice A n c, .int .i32 m, .int .i64 k] w (Same1 (.int .i64 ((pat l m k : Nat) : Int)) w) := by
  have HN := Lib.hid hn
  clear hn
  go_enter Try.func27, Try.ntmps27
  go_wp2
  go_loopg [7, 8] k (fun g s7 s8 wr => ∃ i q : Nat, s8 = .int .i64 (i : Int) ∧ s7 = .int .i64 (q : Int) ∧ i + g = k ∧ q ≤ i ∧ Hid (q = pat l m i) ∧ wr = w)
  case atStart => exact ⟨0, 0, rfl, rfl, by omega, by omega, Lib.hid (by simp [pat]), rfl⟩
  case round =>
    obtain ⟨i, q, rfl, rfl, hig, hqi, HQ, hwr⟩ := hrel
    rw [hwr]
    clear hwr
    rcases gk with _ | g
    · obtain rfl : i = k := by omega
      go_wp2
      go_ret
      exact same1_int (by rw [HQ.out])
    · have hin : i < l.length := by rw [HN.out]; omega
      have hiz : (i : Int) < (k : Int) := by omega
      have hizn : (i : Int) < (n : Int) := by omega
      obtain ⟨bb, off, rfl, hbb, hc⟩ := hr.at_ (by simp; omega)
      have hcell := hc i (by simp; omega)
      rw [cn_get _ _ hin] at hcell
      have HP1 := Lib.hid (pat_le_step (m := m) hin)
      have HP2 := Lib.hid (pat_gt_step (m := m) hin)
      obtain ⟨r, hx⟩ : ∃ r, l[i] = r := ⟨_, rfl⟩
      rw [hx] at hcell HP1 HP2
      have HC := Lib.hid hc
      clear hc hx
      by_cases hle : r ≤ m
      · have hz : (r : Int) ≤ (m : Int) := by omega
        go_wp2
        go_roundg g
        case measure => omega
        case rel => exact ⟨i + 1, q + 1, by go_num, by go_num, by omega, by omega, Lib.hid (by rw [HQ.out, HP1.out hle]), rfl⟩
      · have hz : ¬ (r : Int) ≤ (m : Int) := by omega
        have hy : (m : Int) < (r : Int) := by omega
        go_wp2
        go_roundg g
        case measure => omega
        case rel => exact ⟨i + 1, q, by go_num, rfl, by omega, by omega, Lib.hid (by rw [HQ.out, HP2.out hle]), rfl⟩

/-! the places of those that are not basic -/
def places (l : List Nat) (m b : Nat) : List Nat := (List.range b).filter fun i => decide (l[i]? = some m)
def evi (l : List Nat) : List (Nat × Nat) := (ms l).flatMap fun m => (places l m l.length).map fun i => (m, i)
theorem scan_places (l : List Nat) (m : Nat) : ∀ b, b ≤ l.length → scan m (l.take b) 0 = (places l m b).map fun i => (m, pat l m i)
  | 0, _ => by simp [places, scan]
  | b + 1, h => by
    rw [scan_take (by omega), scan_places l m b (by omega)]
    unfold places
    rw [List.range_succ, List.filter_append, List.map_append]
    congr 1
    by_cases h1 : l[b] = m
    · simp [h1, List.getElem?_eq_getElem (show b < l.length by omega)]
    · simp [h1, List.getElem?_eq_getElem (show b < l.length by omega)]
theorem evs_evi (l : List Nat) : evs l = (evi l).map fun x => (x.1, pat l x.1 x.2) := by
  unfold evs evi
  rw [List.map_flatMap]
  congr 1
  funext m
  have := scan_places l m l.length (Nat.le_refl _)
  rw [List.take_length] at this
  rw [this, List.map_map]
  rfl
def Lex (a b : Nat × Nat) : Prop := a.1 < b.1 ∨ a.1 = b.1 ∧ a.2 < b.2
theorem evi_mem (l : List Nat) (x : Nat × Nat) : x ∈ evi l ↔ l[x.2]? = some x.1 ∧ 128 ≤ x.1 := by
  obtain ⟨m, i⟩ := x
  unfold evi places
  simp only [List.mem_flatMap, List.mem_map, List.mem_filter, List.mem_range, decide_eq_true_eq, Prod.mk.injEq]
  constructor
  · rintro ⟨m', hm, i', ⟨_, h2⟩, rfl, rfl⟩
    exact ⟨h2, ((ms_mem l m').1 hm).2⟩
  · rintro ⟨h1, h2⟩
    have hi : i < l.length := by
      by_cases h : i < l.length
      · exact h
      · rw [List.getElem?_eq_none (by omega)] at h1; cases h1
    refine ⟨m, (ms_mem l m).2 ⟨?_, h2⟩, i, ⟨hi, h1⟩, rfl, rfl⟩
    rw [List.getElem?_eq_getElem hi] at h1
    exact (Option.some.inj h1) ▸ List.getElem_mem hi
theorem evi_rise (l : List Nat) : (evi l).Pairwise Lex := by
  unfold evi
  rw [List.pairwise_flatMap]
  refine ⟨fun m _ => ?_, ?_⟩
  · rw [List.pairwise_map]
    refine List.Pairwise.imp ?_ (List.Pairwise.filter _ List.pairwise_lt_range)
    intro a b h
    exact .inr ⟨rfl, h⟩
  · refine (ms_rise l).imp ?_
    intro a b h x hx y hy
    obtain ⟨_, _, rfl⟩ := List.mem_map.1 hx
    obtain ⟨_, _, rfl⟩ := List.mem_map.1 hy
    exact .inl h
end Go.Proofs.Ytcdjjodiiaahfaa
