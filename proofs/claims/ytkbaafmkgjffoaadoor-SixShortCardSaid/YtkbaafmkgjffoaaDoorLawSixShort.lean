/-
  SixShort: whatever the address, the run is of noughts, of two at least, no row of noughts is longer, or as long and ahead, and where it is shown :: stands, and nowhere else: the law returns true.
  Conditions: those of the card (the variables that the row lists are laid as the program's text lays them).
-/
import Derived.Test.YtkbaafmkgjffoaaDoorSixT
import Derived.Test.YtkbaafmkgjffoaaDoorFrame
import Derived.Test.YtkbaafmkgjffoaaDoorTie
import Derived.Test.YtkbaafmkgjffoaaDoorCards
import Derived.Test.YtkbaafmkgjffoaaDoorSixZ
import Derived.ProofKit
import Derived.Lay
import Derived.Stop.Joined
import Derived.SevenTiedAt
namespace Go.Proofs.YtkbaafmkgjffoaaDoor.sixShort
open Go.ChangeShapes Go.WideShapes Go.ChangeAt Go.RowKit Sx
open Go.ChangeMaps (open_string shut_string)

theorem edge_cases {x : List Nat} {k n : Nat} (h : IsRun x k n) (i : Nat) (hi : i < 8) : (k ≤ i ∧ i < k + n ∧ nth x i = 0) ∨ (n = 0 ∧ k = 0) ∨ (2 ≤ n ∧ i + 1 = k ∧ k ≤ 8 ∧ nth x i ≠ 0) ∨ (2 ≤ n ∧ i = k + n ∧ k + n ≤ 8 ∧ nth x i ≠ 0) ∨ (2 ≤ n ∧ i + 1 ≠ k ∧ i ≠ k + n ∧ ¬ (k ≤ i ∧ i < k + n)) := by
  by_cases hn : n = 0
  · rcases h with ⟨_, h2, _⟩ | ⟨h1, _⟩
    · exact .inr (.inl ⟨hn, h2⟩)
    · omega
  · have h2 : 2 ≤ n := by rcases h with ⟨h1, _⟩ | ⟨h1, _⟩ <;> omega
    have h8 : k + n ≤ 8 := by rcases h with ⟨h1, _⟩ | ⟨_, h2, _⟩ <;> omega
    obtain ⟨ed1, ed2⟩ := run_edge h hn
    by_cases hin : k ≤ i ∧ i < k + n
    · refine .inl ⟨hin.1, hin.2, ?_⟩
      rcases h with ⟨h1, _⟩ | ⟨_, _, h3, _⟩
      · exact absurd h1 hn
      · exact h3 i hin.1 hin.2
    · by_cases e1 : i + 1 = k
      · exact .inr (.inr (.inl ⟨h2, e1, by omega, ed1 i e1⟩))
      · by_cases e2 : i = k + n
        · exact .inr (.inr (.inr (.inl ⟨h2, e2, h8, ed2 i e2 hi⟩)))
        · exact .inr (.inr (.inr (.inr ⟨h2, e1, e2, hin⟩)))
set_option maxRecDepth 100000 in
set_option maxHeartbeats 8000000 in
theorem walk (x : List Nat) (a1 a2 : Int) (w : World) (hx8 : x.length = 8) (hx16 : ∀ m ∈ x, m < 65536) (g1 : 0 ≤ a1) (_g1' : a1 ≤ 255) (g2 : 0 ≤ a2) (g2' : a2 ≤ 255) (hE : Env w) :
    Calls Tryd.prog 6 #[av x, .int .u8 a1, .int .u8 a2] w (fun e w' => e = .returned (.bool true) ∧ Below w.heap.size w w') := by
  obtain ⟨k, n, hr⟩ := IsRun.exists x
  have HR := Lib.hid hr
  have H8 := Lib.hid hx8
  have H16 := Lib.hid hx16
  have HRun := Lib.hid (fun W => Run_any x hx8 k n hr W)
  have HSh := Lib.hid (fun W h => Show_any x hx8 hx16 k n hr W h)
  have hcnt := count_shw k n hx16
  have hlen := shw_len hx8 hx16 hr
  have hkn : (n = 0 ∧ k = 0) ∨ (2 ≤ n ∧ k + n ≤ 8) := by rcases hr with ⟨h1, h2, _⟩ | ⟨h1, h2, _⟩ <;> omega
  obtain ⟨T1, hT1⟩ : ∃ T, shw x k n = T := ⟨_, rfl⟩
  rw [hT1] at HSh hcnt hlen
  have HT1 := Lib.hid hT1
  have HC := Lib.hid (fun W h => Count_any (bs T1) ⟨#[58, 58]⟩ (by decide) (by rw [bs_size]; omega) W h)
  have hcb : Lib.countB (bs T1) ⟨#[58, 58]⟩ = min n 1 := by
    show Lib.count (bs T1).data.toList _ = _
    rw [bs_data]
    exact hcnt
  rw [hcb] at HC
  unfold Texts at HSh
  obtain ⟨s1, hs1⟩ : ∃ s, bs T1 = s := ⟨_, rfl⟩
  rw [hs1] at HSh HC
  have HS1 := Lib.hid hs1
  obtain ⟨cn, hcn⟩ : ∃ cn, min n 1 = cn := ⟨_, rfl⟩
  rw [hcn] at HC
  have hcni : min (n : Int) 1 = (cn : Int) := by omega
  have hn1 : ((n : Int) == 1) = false := by rw [beq_eq_false_iff_ne]; omega
  have hk0 : (0 : Int) ≤ (k : Int) := by omega
  have hkn8 : (k : Int) + (n : Int) ≤ 8 := by omega
  have hxa := Hx.new w x
  have hB0 := upA w (.cells (cu x).toArray 23)
  obtain ⟨w1, hw1⟩ : ∃ w1, w.alloc (.cells (cu x).toArray 23) = w1 := ⟨_, rfl⟩
  rw [hw1] at hxa hB0
  have HE := Lib.hid (fun W (hB : Below w1.heap.size w1 W) => (hE.go hB0).go hB)
  have HB0 := Lib.hid hB0
  have HXA := Lib.hid hxa
  have HAW := Lib.hid (fun W h => awake_any W h)
  have HFU := Lib.hid (fun W h => full_row x [] hx8 hx16 (by simp) none 0 0 W rfl (by decide) .empty h)
  rw [fl_hx hx8] at HFU
  have HHL : Hid ((hx x).length = 8) := Lib.hid (by rw [hx, List.length_map, hx8])
  have HJN := Lib.hid (hx_jn_len hx16 (by omega))
  have HJ1 := Lib.hid (hx_jn_len (mem_take hx16 k) (by rw [List.length_take]; omega))
  have HJ2 := Lib.hid (hx_jn_len (mem_drop hx16 (k + n)) (by rw [List.length_drop]; omega))
  have HSH : Hid ((n = 0 → jn (hx x) = T1) ∧ (n ≠ 0 → jn (hx (x.take k)) ++ 58 :: 58 :: jn (hx (x.drop (k + n))) = T1)) := Lib.hid ⟨fun e => by rw [← hT1, shw, if_pos e], fun e => by rw [← hT1, shw, if_neg e]⟩
  clear hx8 hx16 hr hcnt hlen hT1 hs1 hcb hcn hE hB0
  go_enter Tryd.func6, Tryd.ntmps6
  go_upto_region 1 with fail
  clear hw1
  go_upto_region 2 with (first | (refine load8 _ rfl _ rfl x hxa H8.out rfl ?_) | (go_at_call 11; refine (HRun.out _).mono ?_; rintro e w2 ⟨rfl, hB2⟩) | fail)
  have hx2 := HXA.out.go hB2
  go_upto_region 3 with (first | (refine load8 _ rfl _ rfl x hx2 H8.out rfl ?_) | (go_at_call 13; refine (HSh.out _ (HE.out _ hB2)).mono ?_; rintro e w3 ⟨rfl, hb3⟩) | fail)
  have HB3 := Lib.hid (hB2.trans (hb3.mono hB2.size))
  clear hxa hx2 hb3 hB2
  have HX3 := Lib.hid (HXA.out.go HB3.out)
  have HED := Lib.hid hkn
  have hcs0 : ((n : Int) == 0) = true ∧ ((k : Int) != 0) = false ∨ ((n : Int) == 0) = false := by
    rcases hkn with ⟨e1, e2⟩ | ⟨e1, e2⟩
    · exact .inl ⟨by rw [e1]; rfl, by rw [e2]; rfl⟩
    · exact .inr (by rw [beq_eq_false_iff_ne]; omega)
  clear hkn
  have hk00 : ((k : Int) < 0) = False := eq_false (by omega)
  have hn00 : ((n : Int) < 0) = False := eq_false (by omega)
  rcases hcs0 with ⟨hnz, hkz⟩ | hnz
  all_goals (
    go_upto_region 5 with (first | (go_at_call 20; refine (HC.out _ (HE.out _ HB3.out)).mono ?_; rintro e w4 ⟨rfl, rfl⟩) | fail)
    try clear hkz
    go_wp2_with fail
    go_loopg [55] 8 (fun g s55 wr => ∃ i : Nat, s55 = .int .i64 (i : Int) ∧ 8 - i = g ∧ i ≤ 8 ∧ wr = w4)
    case atStart => exact ⟨0, rfl, rfl, Nat.zero_le _, rfl⟩
    case round =>
      obtain ⟨i, rfl, rfl, hi, hw0⟩ := hrel
      have hw1 := hw0.symm
      subst hw1
      by_cases hlt : i < 8
      · have hltz : (i : Int) < 8 := by omega
        have hii : (0 : Int) ≤ (i : Int) ∧ (i : Int) < 8 := by omega
        have hit : (i : Int).toNat = i := by omega
        have hc := HX3.out.cell (k := i) (by rw [H8.out]; exact hlt)
        have hE0 := HED.out
        have hcs := edge_cases HR.out i hlt
        have hv0 : (0 : Int) ≤ (nth x i : Int) := by omega
        generalize nth x i = v at hc hcs hv0
        rcases hcs with ⟨e1, e2, e3⟩ | ⟨e1, e2⟩ | ⟨e1, e2, e3, e4⟩ | ⟨e1, e2, e3, e4⟩ | ⟨e1, e2, e3, e4⟩
        · subst e3
          have hp1 : ((k : Int) ≤ (i : Int)) := by omega
          have hn1 : (k ≤ i) := by omega
          have hd1 : decide ((k : Int) ≤ (i : Int)) = true := decide_eq_true hp1
          have hp2 : ((i : Int) < (k : Int) + (n : Int)) := by omega
          have hn2 : (i < k + n) := by omega
          have hd2 : decide ((i : Int) < (k : Int) + (n : Int)) = true := decide_eq_true hp2
          have hp3 : ¬ ((i : Int) = (k : Int) - 1) := by omega
          have hd3 : ((i : Int) == (k : Int) - 1) = false := by rw [beq_eq_false_iff_ne]; omega
          have hp4 : ¬ ((i : Int) = (k : Int) + (n : Int)) := by omega
          have hn4 : ¬ (i = k + n) := by omega
          have hd4 : ((i : Int) == (k : Int) + (n : Int)) = false := by rw [beq_eq_false_iff_ne]; omega
          have hp5 : ((0 : Int) < (n : Int)) := by omega
          have hn5 : (0 < n) := by omega
          have hd5 : decide ((0 : Int) < (n : Int)) = true := decide_eq_true hp5
          clear e1 e2 hE0
          go_wp2_with fail
          go_roundg (8 - (i + 1))
          case measure => omega
          case rel => exact ⟨i + 1, by go_num, rfl, by omega, rfl⟩
        · have hp1 : ((k : Int) ≤ (i : Int)) := by omega
          have hn1 : (k ≤ i) := by omega
          have hd1 : decide ((k : Int) ≤ (i : Int)) = true := decide_eq_true hp1
          have hp2 : ¬ ((i : Int) < (k : Int) + (n : Int)) := by omega
          have hn2 : ¬ (i < k + n) := by omega
          have hd2 : decide ((i : Int) < (k : Int) + (n : Int)) = false := decide_eq_false hp2
          have hp5 : ¬ ((0 : Int) < (n : Int)) := by omega
          have hn5 : ¬ (0 < n) := by omega
          have hd5 : decide ((0 : Int) < (n : Int)) = false := decide_eq_false hp5
          clear e1 e2 hE0
          go_wp2_with fail
          go_roundg (8 - (i + 1))
          case measure => omega
          case rel => exact ⟨i + 1, by go_num, rfl, by omega, rfl⟩
        · have hp1 : ¬ ((k : Int) ≤ (i : Int)) := by omega
          have hn1 : ¬ (k ≤ i) := by omega
          have hd1 : decide ((k : Int) ≤ (i : Int)) = false := decide_eq_false hp1
          have hd3 : ((i : Int) == (k : Int) - 1) = true := by rw [beq_iff_eq]; omega
          have hp5 : ((0 : Int) < (n : Int)) := by omega
          have hn5 : (0 < n) := by omega
          have hd5 : decide ((0 : Int) < (n : Int)) = true := decide_eq_true hp5
          have hd6 : ((v : Int) == 0) = false := by rw [beq_eq_false_iff_ne]; omega
          have hp6 : ¬ (v : Int) = 0 := by omega
          have hn6 : ¬ v = 0 := by omega
          clear e1 e2 e3 e4 hE0
          go_wp2_with fail
          go_roundg (8 - (i + 1))
          case measure => omega
          case rel => exact ⟨i + 1, by go_num, rfl, by omega, rfl⟩
        · have hp1 : ((k : Int) ≤ (i : Int)) := by omega
          have hn1 : (k ≤ i) := by omega
          have hd1 : decide ((k : Int) ≤ (i : Int)) = true := decide_eq_true hp1
          have hp2 : ¬ ((i : Int) < (k : Int) + (n : Int)) := by omega
          have hn2 : ¬ (i < k + n) := by omega
          have hd2 : decide ((i : Int) < (k : Int) + (n : Int)) = false := decide_eq_false hp2
          have hp3 : ¬ ((i : Int) = (k : Int) - 1) := by omega
          have hd3 : ((i : Int) == (k : Int) - 1) = false := by rw [beq_eq_false_iff_ne]; omega
          have hd4 : ((i : Int) == (k : Int) + (n : Int)) = true := by rw [beq_iff_eq]; omega
          have hp5 : ((0 : Int) < (n : Int)) := by omega
          have hn5 : (0 < n) := by omega
          have hd5 : decide ((0 : Int) < (n : Int)) = true := decide_eq_true hp5
          have hd6 : ((v : Int) == 0) = false := by rw [beq_eq_false_iff_ne]; omega
          have hp6 : ¬ (v : Int) = 0 := by omega
          have hn6 : ¬ v = 0 := by omega
          clear e1 e2 e3 e4 hE0
          go_wp2_with fail
          go_roundg (8 - (i + 1))
          case measure => omega
          case rel => exact ⟨i + 1, by go_num, rfl, by omega, rfl⟩
        · by_cases hik : i < k
          · have hp1 : ¬ ((k : Int) ≤ (i : Int)) := by omega
            have hn1 : ¬ (k ≤ i) := by omega
            have hd1 : decide ((k : Int) ≤ (i : Int)) = false := decide_eq_false hp1
            have hp3 : ¬ ((i : Int) = (k : Int) - 1) := by omega
            have hd3 : ((i : Int) == (k : Int) - 1) = false := by rw [beq_eq_false_iff_ne]; omega
            have hp4 : ¬ ((i : Int) = (k : Int) + (n : Int)) := by omega
            have hn4 : ¬ (i = k + n) := by omega
            have hd4 : ((i : Int) == (k : Int) + (n : Int)) = false := by rw [beq_eq_false_iff_ne]; omega
            have hp5 : ((0 : Int) < (n : Int)) := by omega
            have hn5 : (0 < n) := by omega
            have hd5 : decide ((0 : Int) < (n : Int)) = true := decide_eq_true hp5
            clear e1 e2 e3 e4 hE0 hik
            go_wp2_with fail
            go_roundg (8 - (i + 1))
            case measure => omega
            case rel => exact ⟨i + 1, by go_num, rfl, by omega, rfl⟩
          · have hp1 : ((k : Int) ≤ (i : Int)) := by omega
            have hn1 : (k ≤ i) := by omega
            have hd1 : decide ((k : Int) ≤ (i : Int)) = true := decide_eq_true hp1
            have hp2 : ¬ ((i : Int) < (k : Int) + (n : Int)) := by omega
            have hn2 : ¬ (i < k + n) := by omega
            have hd2 : decide ((i : Int) < (k : Int) + (n : Int)) = false := decide_eq_false hp2
            have hp3 : ¬ ((i : Int) = (k : Int) - 1) := by omega
            have hd3 : ((i : Int) == (k : Int) - 1) = false := by rw [beq_eq_false_iff_ne]; omega
            have hp4 : ¬ ((i : Int) = (k : Int) + (n : Int)) := by omega
            have hn4 : ¬ (i = k + n) := by omega
            have hd4 : ((i : Int) == (k : Int) + (n : Int)) = false := by rw [beq_eq_false_iff_ne]; omega
            have hp5 : ((0 : Int) < (n : Int)) := by omega
            have hn5 : (0 < n) := by omega
            have hd5 : decide ((0 : Int) < (n : Int)) = true := decide_eq_true hp5
            clear e1 e2 e3 e4 hE0 hik
            go_wp2_with fail
            go_roundg (8 - (i + 1))
            case measure => omega
            case rel => exact ⟨i + 1, by go_num, rfl, by omega, rfl⟩
      · obtain rfl : i = 8 := by omega
        obtain ⟨a, ha⟩ : ∃ a : Nat, a1 % 8 = (a : Int) := ⟨(a1 % 8).toNat, by omega⟩
        have ha' : a1.tmod 8 = (a : Int) := by rw [Int.tmod_eq_emod_of_nonneg g1]; exact ha
        have ha7 : a ≤ 7 := by omega
        obtain ⟨q, hq⟩ : ∃ q : Nat, a2 % (8 - (a : Int)) = (q : Int) := ⟨(a2 % (8 - (a : Int))).toNat, by have := Int.emod_nonneg a2 (b := 8 - (a : Int)) (by omega); omega⟩
        have hq' : a2.tmod (8 - (a : Int)) = (q : Int) := by rw [Int.tmod_eq_emod_of_nonneg g2]; exact hq
        have hq7 : (q : Int) < 8 - (a : Int) := by rw [← hq]; exact Int.emod_lt_of_pos _ (by omega)
        obtain ⟨m, hm⟩ : ∃ m : Nat, 1 + (q : Int) = (m : Int) := ⟨1 + q, by omega⟩
        have hm1 : 1 ≤ m := by omega
        have ham : a + m ≤ 8 := by omega
        have hr0 : ¬ (8 : Int) - (a : Int) = 0 := by omega
        have hr1 : (0 : Int) ≤ 8 - (a : Int) ∧ (8 : Int) - (a : Int) ≤ 8 := by omega
        clear hi hlt hq7
        go_upto_region 15 with fail
        go_loopg [14] m (fun g s14 wr => ∃ i : Nat, s14 = .int .i64 (i : Int) ∧ a + m - i = g ∧ a ≤ i ∧ i ≤ a + m ∧ Hid (zr x a (i - a)) ∧ wr = w4)
        case atStart => exact ⟨a, rfl, by omega, Nat.le_refl _, by omega, Lib.hid (fun j h1 h2 => by omega), rfl⟩
        case round =>
          obtain ⟨i, rfl, rfl, hai, him, HZ, hw0⟩ := hrel
          have hw1 := hw0.symm
          subst hw1
          by_cases hlt : i < a + m
          · have hltz : (i : Int) < (a : Int) + (m : Int) := by omega
            have hii : (0 : Int) ≤ (i : Int) ∧ (i : Int) < 8 := by omega
            have hit : (i : Int).toNat = i := by omega
            have hc := HX3.out.cell (k := i) (by rw [H8.out]; omega)
            have HV : Hid (nth x i = 0 → zr x a (i + 1 - a)) := Lib.hid (fun e j h1 h2 => by
              by_cases h : j = i
              · subst h; exact e
              · exact HZ.out j h1 (by omega))
            obtain ⟨v, hv⟩ : ∃ v, nth x i = v := ⟨_, rfl⟩
            rw [hv] at hc HV
            clear hv
            by_cases hv0 : v = 0
            · subst hv0
              have HV0 := Lib.hid (HV.out rfl)
              clear HV
              go_wp2_with fail
              go_roundg (a + m - (i + 1))
              case measure => omega
              case rel => exact ⟨i + 1, by go_num, rfl, by omega, by omega, HV0, rfl⟩
            · have hvz : ¬ (v : Int) = 0 := by omega
              have hvb : ((v : Int) == 0) = false := by rw [beq_eq_false_iff_ne]; omega
              go_wp2_with (first | (go_at_call 8; refine (HAW.out _ (HE.out _ HB3.out)).mono ?_; rintro e w5 ⟨rfl, hB5⟩) | fail)
              go_ret
              exact ⟨rfl, HB0.out.trans ((HB3.out.trans (hB5.mono HB3.out.size)).mono HB0.out.size)⟩
          · obtain rfl : i = a + m := by omega
            have hzz : zr x a m := by have := HZ.out; rwa [show a + m - a = m by omega] at this
            have hnl : ¬ ((a + m : Nat) : Int) < (a : Int) + (m : Int) := by omega
            have h19 : (¬ 1 < m ∧ 0 = 0) ∨ (1 < m ∧ m < n) ∨ (1 < m ∧ m = n ∧ k ≤ a) := by
              by_cases h : 1 < m
              · obtain ⟨r1, r2⟩ := run_max HR.out hzz ham h
                by_cases e : m = n
                · exact .inr (.inr ⟨h, e, r2 e⟩)
                · exact .inr (.inl ⟨h, by omega⟩)
              · exact .inl ⟨h, rfl⟩
            have h19' : ((¬ 1 < m ∧ ¬ (1 : Int) < (m : Int)) ∧ decide ((1 : Int) < (m : Int)) = false) ∨ (((1 < m ∧ (1 : Int) < (m : Int)) ∧ decide ((1 : Int) < (m : Int)) = true) ∧ ((¬ n < m ∧ ¬ (n : Int) < (m : Int)) ∧ decide ((n : Int) < (m : Int)) = false) ∧ ((¬ m = n ∧ ¬ (m : Int) = (n : Int)) ∧ ((m : Int) == (n : Int)) = false)) ∨ (((1 < m ∧ (1 : Int) < (m : Int)) ∧ decide ((1 : Int) < (m : Int)) = true) ∧ ((¬ n < m ∧ ¬ (n : Int) < (m : Int)) ∧ decide ((n : Int) < (m : Int)) = false) ∧ ((m : Int) == (n : Int)) = true ∧ ((¬ a < k ∧ ¬ (a : Int) < (k : Int)) ∧ decide ((a : Int) < (k : Int)) = false)) := by
              rcases h19 with ⟨h1, _⟩ | ⟨h1, h2⟩ | ⟨h1, h2, h3⟩
              · exact .inl ⟨⟨h1, by omega⟩, decide_eq_false (by omega)⟩
              · exact .inr (.inl ⟨⟨⟨h1, by omega⟩, decide_eq_true (by omega)⟩, ⟨⟨by omega, by omega⟩, decide_eq_false (by omega)⟩, ⟨by omega, by omega⟩, by rw [beq_eq_false_iff_ne]; omega⟩)
              · exact .inr (.inr ⟨⟨⟨h1, by omega⟩, decide_eq_true (by omega)⟩, ⟨⟨by omega, by omega⟩, decide_eq_false (by omega)⟩, by rw [beq_iff_eq]; omega, ⟨by omega, by omega⟩, decide_eq_false (by omega)⟩)
            clear h19 hzz HZ hai him hlt
            rcases h19' with ⟨⟨q1, q2⟩, q3⟩ | ⟨⟨⟨q1, q2⟩, q3⟩, ⟨⟨q4, q5⟩, q6⟩, ⟨q7, q8⟩, q9⟩ | ⟨⟨⟨q1, q2⟩, q3⟩, ⟨⟨q4, q5⟩, q6⟩, q7, ⟨q8, q9⟩, q10⟩
            all_goals (
              have hx4 := HX3.out
              go_upto_region 21 with fail
              go_upto_region 22 with (first | (refine load8 _ rfl _ rfl x hx4 H8.out rfl ?_) | (go_at_call 17; refine (HFU.out _ (HE.out _ HB3.out)).mono ?_; rintro e w5 ⟨b, o, c', rfl, HC8, HT, hB5⟩) | fail)
              have HB5 := Lib.hid (HB3.out.trans (hB5.mono HB3.out.size))
              have HJA := Lib.hid (HT.out.join HHL.out (by decide) HC8.out (by have := HJN.out; omega))
              have HSW := Lib.hid (fun W (hB : Below w1.heap.size w1 W) => HE.out W hB)
              clear hx4
              obtain ⟨s2, hs2⟩ : ∃ s, bs (jn (hx x)) = s := ⟨_, rfl⟩
              have HJA2 : Hid (Calls Tryd.prog 19 #[.slice (some ⟨b, o, none⟩) 8 c', .string ⟨#[58]⟩] w5 (fun e w' => e = .returned (.string s2) ∧ Below w5.heap.size w5 w')) := Lib.hid (by rw [← hs2]; exact HJA.out)
              clear HJA
              go_upto_region 23 with (first | (go_at_call 19; refine HJA2.out.mono ?_; rintro e w6 ⟨rfl, hB6⟩) | fail)
              have HT6 := Lib.hid (HT.out.go hB6)
              have HB6 := Lib.hid (HB5.out.trans (hB6.mono HB5.out.size))
              clear hB5 hB6
              have HOK := HSH.out
              by_cases hn0 : n = 0
              · have hp1 : ¬ (0 : Int) < (n : Int) := by omega
                have hp2 : ¬ 0 < n := by omega
                have hp3 : decide ((0 : Int) < (n : Int)) = false := decide_eq_false hp1
                have hq1 : (s1.toList == s2.toList) = true := by
                  rw [beq_iff_eq, ← hs2, HOK.1 hn0, HS1.out]
                clear HOK hn0
                go_wp2_with (first | (go_at_call 8; refine (HAW.out _ (HE.out _ HB6.out)).mono ?_; rintro e w7 ⟨rfl, hB7⟩) | fail)
                go_ret
                exact ⟨rfl, HB0.out.trans ((HB6.out.trans (hB7.mono HB6.out.size)).mono HB0.out.size)⟩
              · have hp1 : (0 : Int) < (n : Int) := by omega
                have hp2 : 0 < n := by omega
                have hp3 : decide ((0 : Int) < (n : Int)) = true := decide_eq_true hp1
                have hkn9 : k + n ≤ 8 := by omega
                have hta := HT6.out.take k
                rw [show (hx x).take k = hx (x.take k) from (List.map_take ..).symm] at hta
                have htb := HT6.out.dropc (k + n) c' (by rw [HHL.out]; exact HC8.out)
                rw [show (hx x).drop (k + n) = hx (x.drop (k + n)) from (List.map_drop ..).symm] at htb
                have HJ3 := Lib.hid (fun W (hB : Below w6.heap.size w6 W) => ((hta.go hB).join (n := k) (c := c') (by rw [hx, List.length_map, List.length_take, H8.out]; omega) (by omega) (by have := HC8.out; omega) (by have := HJ1.out; omega)).mono fun e w' h => (⟨h.1, upB hB h.2⟩ : Texts (jn (hx (x.take k))) w6 e w'))
                have HJ4 := Lib.hid (fun W (hB : Below w6.heap.size w6 W) => ((htb.go hB).join (n := 8 - (k + n)) (c := c' - (k + n)) (by rw [hx, List.length_map, List.length_drop, H8.out]) (by omega) (by have := HC8.out; omega) (by have := HJ2.out; omega)).mono fun e w' h => (⟨h.1, upB hB h.2⟩ : Texts (jn (hx (x.drop (k + n)))) w6 e w'))
                have hsl1 := fun W => ts_h b o k c' (by omega) HC8.out W
                have hsl2 := fun W => ts_sum b o k n c' hkn9 HC8.out W
                have hz1 : (bs (jn (hx (x.take k)))).size ≤ 40 := by rw [bs_size]; exact HJ1.out
                have hz2 : (bs (jn (hx (x.drop (k + n))))).size ≤ 40 := by rw [bs_size]; exact HJ2.out
                have hq0 : s1 = bs (jn (hx (x.take k))) ++ ⟨#[58, 58]⟩ ++ bs (jn (hx (x.drop (k + n)))) := by
                  rw [← HS1.out, ← HOK.2 hn0]
                  refine (bytes_ext.2 ?_).symm
                  rw [bs_data]
                  show dl _ = _
                  rw [app_dl, app_dl]
                  simp [dl, bs]
                unfold Texts at HJ3 HJ4
                generalize bs (jn (hx (x.take k))) = sA at HJ3 hz1 hq0
                generalize bs (jn (hx (x.drop (k + n)))) = sB at HJ4 hz2 hq0
                have hq1 : (s1.toList == (sA ++ ⟨#[58, 58]⟩ ++ sB).toList) = true := by rw [beq_iff_eq, ← hq0]
                generalize offc o (k + n) c' = o2 at HJ4 hsl2
                generalize c' - (k + n) = c2 at HJ4 hsl2
                generalize 8 - (k + n) = m2 at HJ4 hsl2
                have hww : IntKind.i64.wrap ((k : Int) + (n : Int)) = (k : Int) + (n : Int) := IntWalk.i64_in _ (by omega)
                have hc1 : ¬ (9223372036854775807 < sA.size + 2) := by omega
                have hc2 : ¬ (9223372036854775807 < sA.size + 2 + sB.size) := by omega
                clear HOK hn0 hta htb hq0 hkn9 HC8 HJA2
                go_upto_region 24 with fail
                have hd0 : Below w6.heap.size w6 w6.drew := (Below.refl _ _).drew
                go_region_law (first
                  | (go_simp; go_at_call 19; with_reducible refine (HJ3.out _ (by assumption)).mono ?_; rintro e' wA ⟨rfl, hbA⟩)
                  | (go_simp; go_at_call 19; with_reducible refine (HJ4.out _ (by assumption)).mono ?_; rintro e' wB ⟨rfl, hbB⟩)
                  | fail)
                all_goals
                  go_wp2_with (first | (go_at_call 8; first | ((with_reducible refine (HAW.out _ (HE.out _ (HB6.out.trans (hbB.mono HB6.out.size)))).mono ?_); rintro e w9 ⟨rfl, hB9⟩; have HB9 := Lib.hid (HB6.out.trans ((upB hbB hB9).mono HB6.out.size))) | ((with_reducible refine (HAW.out _ (HE.out _ (HB6.out.trans (hbA.mono HB6.out.size)))).mono ?_); rintro e w9 ⟨rfl, hB9⟩; have HB9 := Lib.hid (HB6.out.trans ((upB hbA hB9).mono HB6.out.size)))) | fail)
                  go_ret
                  exact ⟨rfl, HB0.out.trans (HB9.out.mono HB0.out.size)⟩)
  )

/-! From the walk to the given statement. -/
set_option linter.unusedVariables false
theorem own : ownKnob Tryd.prog.godebug = none := by kernel_rfl
theorem laidOut : laidOutB Tryd.prog = true := by kernel_rfl
set_option maxRecDepth 100000 in
theorem lifted (os : Os) (started : os.Started) (H : Type) (enc : TypeId × Value → H) :
    ReturnsInHanded {} Tryd.checked os 6 .any (fun w args => (Rows.sixShortSpec.pre enc Tryd.prog Tryd.f6 [] false w args ∧ laidMetH Tryd.prog Rows.sixShortRow.laid w) ∧ sizedMet enc Tryd.prog Tryd.f6 (OpenSpec.ofChange Rows.sixShortSpec) false w args)
      (Rows.sixShortSpec.post enc Tryd.prog Tryd.f6 false true false false) := by
  refine returnsIn_and_shaped (C := Tryd.checked) (X := fun w _ => laidMetH Tryd.prog Rows.sixShortRow.laid w) (fun _ _ _ hh h => h.of_heap hh) own started (by kernel_rfl) Tryd.func6
    (ChangeSpec.witness_shaped (enc := enc) (C := Tryd.checked) (os := os) (X := fun w _ => laidMetH Tryd.prog Rows.sixShortRow.laid w) false (World.laidAll Tryd.prog os Rows.sixShortRow.laid) #[.agg #[.int .u16 0, .int .u16 0, .int .u16 0, .int .u16 0, .int .u16 0, .int .u16 0, .int .u16 0, .int .u16 0], .int .u8 0, .int .u8 0] 8 (World.laidAll_os _ _ _)
      (World.shaped_of_ZipB (by kernel_rfl) (by kernel_rfl)) (by kernel_rfl) (by kernel_rfl) (by kernel_rfl)
      (by rw [MakeChecks.laidMetH_plain _ _ _ (by kernel_rfl)]; exact laidMet_laidAll _ (by kernel_rfl) (by kernel_rfl))) ?_
  intro W base args ds gs before hval0 hW _ _ hL hsh _
  have hval : ∀ (j : Nat) t v, Tryd.f6.params[j]? = some t → args[j]? = some v → Value.okWide Tryd.prog W .any base t v := hval0
  have hW' := hW
  obtain ⟨p, q, hA0, hV, rfl, _, _⟩ := hW
  have hA : DataW.TrodAll enc Tryd.prog W 0 (fun _ => true) true Tryd.f6.params.toList args.toList ds p := hA0
  rw [Tryd.params6] at hA hval
  obtain ⟨v0, vs0, d0, ds0, p0, q0, hargs, rfl, rfl, h0, r0⟩ := trodAll_cons hA
  obtain ⟨v1, vs1, d1, ds1, p1, q1, rfl, rfl, rfl, h1, r1⟩ := trodAll_cons r0
  obtain ⟨v2, vs2, d2, ds2, p2, q2, rfl, rfl, rfl, h2, r2⟩ := trodAll_cons r1
  obtain ⟨rfl, rfl, rfl⟩ := trodAll_nil r2
  obtain rfl : args = #[v0, v1, v2] := by cases args; simp_all
  obtain ⟨rfl, rfl⟩ := trodVars_none hV
  obtain ⟨xs0, rfl, n0⟩ := WideMaps.okWide_arr arr8_key (hval 0 23 v0 rfl rfl)
  have k0 := h0
  obtain ⟨rfl, x0, l0, m0, rfl⟩ := arr8_open n0 h0
  have lt0 : ∀ x ∈ ([] : List MemPlace), x.block < W.heap.size := fun x hx => by cases hx
  obtain ⟨a1, rfl, rfl, rfl, w1⟩ := open_int Tryd.underlying5 (hval 1 5 v1 rfl rfl) h1
  have b1 : 0 ≤ a1 ∧ a1 ≤ 255 := by simpa [Lit.wf, IntKind.min, IntKind.max, IntKind.signed, IntKind.bits] using w1
  obtain ⟨a2, rfl, rfl, rfl, w2⟩ := open_int Tryd.underlying5 (hval 2 5 v2 rfl rfl) h2
  have b2 : 0 ≤ a2 ∧ a2 ≤ 255 := by simpa [Lit.wf, IntKind.min, IntKind.max, IntKind.signed, IntKind.bits] using w2
  clear hA0 hval0
  rw [MakeChecks.laidMetH_plain _ _ _ (by kernel_rfl)] at hL
  have hEnv : Env W := env_of hsh (Lib.laidMet.reads hL (.tail _ (.head _))) (Lib.laidMet.reads hL (.tail _ (.tail _ (.head _)))) (Lib.laidMet.reads hL (.tail _ (.tail _ (.tail _ (.tail _ (.head _)))))) (Lib.laidMet.reads hL (.tail _ (.tail _ (.tail _ (.tail _ (.tail _ (.head _)))))))
  refine (walk x0 a1 a2 W l0 m0 b1.1 b1.2 b2.1 b2.2 hEnv).mono fun e W' ⟨he, bel⟩ => ?_
  subst he
  exact ⟨_, rfl, _, _, _, [], _, [], hW', trodAll_mk1 (shut_bool Tryd.underlying4 _), (trodAll_cons_mk (Below.trod laidOut (by kernel_rfl) (of_decide_eq_true (by kernel_rfl)) k0 bel lt0) (trodAll_cons_mk (shut_int Tryd.underlying5 w1) (trodAll_cons_mk (shut_int Tryd.underlying5 w2) trodAll_mk0))), rfl, bel.frame _, fun h => by cases h⟩

theorem row_holds : Rows.SixShortSaid :=
  OpenClaim.holds_of_wide 6 Tryd.f6 rfl rfl rfl rfl rfl rfl rfl ⟨rfl, rfl, rfl, rfl, rfl⟩ rfl rfl rfl rfl rfl (by kernel_rfl) Tryd.func6 (by kernel_rfl)
    (of_decide_eq_true (by kernel_rfl)) (by unfold Func.isWrapper; first | (rw [if_pos (by decide +kernel)]; kernel_rfl) | (rw [if_neg (by decide +kernel)]; exact ⟨rfl, rfl⟩))
    (fun os started H enc _ => lifted os started H enc)

theorem proved : Rows.SixShortCardSaid :=
  Claim7.holds_tied_plain_at .later [] [.data, .data, .data, .data, .sentinel, .sentinel, .pinned] true (true, "088f59884a7ce57d9b8a56315fa832e1f9ff9639c70780f69158d45bb9a90f63") true
    row_holds (fun _ h => by cases h) (by kernel_rfl) (fun _ h => by cases h) sixShort_row_tie rfl ⟨rfl, rfl⟩ (by kernel_rfl) rfl
    (fun f fn hf hfn => by
      obtain rfl : f = 6 := Option.some.inj ((show Tryd.prog.funcNamed "fascia/fascialaw13.SixShort" = some 6 by kernel_rfl).symm.trans hf) |>.symm
      obtain rfl : fn = Tryd.f6 := (Option.some.inj (Tryd.func6.symm.trans hfn)).symm
      exact ⟨by kernel_rfl, fun j t ht => by
        rw [Tryd.params6] at ht
        have hm : t ∈ [23, 5, 5] := by simpa using Array.mem_of_getElem? ht
        have hall : ([23, 5, 5].all fun u => !Tryd.prog.wantsStandIn u) = true := by kernel_rfl
        exact (show Tryd.prog.wantsStandIn t = false by simpa using List.all_eq_true.1 hall t hm)⟩)
    (by kernel_rfl)
end Go.Proofs.YtkbaafmkgjffoaaDoor.sixShort
