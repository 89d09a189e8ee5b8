/-
  fasciaref08: reaches, script, within, is.
-/
import Derived.Test.YtmeihnhghdmjiaaGreatDoorCtxI
import Derived.Test.YtmeihnhghdmjiaaGreatDoorUcdRefC
namespace Go.Proofs.YtmeihnhghdmjiaaGreatDoor.Ctx
open Go.RowKit Ucd

theorem rfld (p : List Int) (w : World) :
    (Instr.field 35 (pv p) 2).run Tryz.prog w = .ok (.int .u8 (g p 2)) w ∧ (Instr.field 35 (pv p) 3).run Tryz.prog w = .ok (.int .u8 (g p 3)) w ∧ (Instr.field 35 (pv p) 4).run Tryz.prog w = .ok (.int .u8 (g p 4)) w := ⟨by kernel_rfl, by kernel_rfl, by kernel_rfl⟩
/-- one of two joining types -/
def two (a b j : Int) : Bool := decide (j = a) || decide (j = b)
set_option maxRecDepth 100000 in
set_option maxHeartbeats 2000000 in
theorem reachF_any (l : List Int) (i : Nat) (a b : Int) (ha : a ≠ 2) (hb2 : b ≠ 2) (ha0 : a ≠ 0) (hb0 : b ≠ 0) (A : Option Addr) (n c : Nat) (w : World) (hn : l.length = n) (hi : i ≤ n) (hn1 : n ≤ 1000000) (hC : C32 l) (hr : Row w w.heap.size A (cl .i32 l)) : Calls Tryz.prog 13 #[.slice A n c, .int .i64 (i : Int), .int .i64 1, .int .u8 a, .int .u8 b] w (IsB (two a b (nxt (l.drop i))) w) := by
  have HN := Lib.hid hn
  have HC := Lib.hid hC
  have H0 : Hid (two a b 0 = false) := Lib.hid (by unfold two; rw [decide_eq_false (Ne.symm ha0), decide_eq_false (Ne.symm hb0)]; rfl)
  have H2 : Hid (2 ≠ a ∧ 2 ≠ b) := Lib.hid ⟨Ne.symm ha, Ne.symm hb2⟩
  clear hn hC ha hb2 ha0 hb0
  go_enter Tryz.func13, Tryz.ntmps13
  go_wp2_with fail
  go_loopg [1] (n - i) (fun m s1 wr => ∃ k : Nat, s1 = .int .i64 (k : Int) ∧ m = n - k ∧ k ≤ n ∧ Hid (nxt (l.drop k) = nxt (l.drop i)) ∧ Below w.heap.size w wr)
  case atStart => exact ⟨i, rfl, rfl, hi, Lib.hid rfl, Below.refl _ _⟩
  case round =>
    obtain ⟨k, rfl, rfl, hk, HE, hB⟩ := hrel
    have h0z : (0 : Int) ≤ (k : Int) := by omega
    by_cases hlt : k < n
    · have hltz : (k : Int) < (n : Int) := by omega
      obtain ⟨b', o, rfl, hb, hcc⟩ := (hr.below hB).at_ (by have := HN.out; simp; omega)
      have c0 := row_cell hcc k (by rw [HN.out]; exact hlt)
      have hc := HC.out _ (mems (l := l) (i := k) (by rw [HN.out]; exact hlt))
      obtain ⟨y, hy⟩ : ∃ y, l[k]! = y := ⟨_, rfl⟩
      have hnx := nxt_drop (l := l) (k := k) (by rw [HN.out]; exact hlt)
      rw [hy] at c0 hnx hc
      have HO := Lib.hid (fun w => RefOf_any y w hc.1 hc.2)
      have HR := fun w => (rfld (of y) w).1
      unfold jt at hnx
      generalize of y = p at HO HR hnx
      obtain ⟨j, hj⟩ : ∃ j, g p 2 = j := ⟨_, rfl⟩
      rw [hj] at HR hnx
      have HX : Hid (j = 2 → nxt (l.drop k) = nxt (l.drop (k + 1))) := Lib.hid (fun h => hnx.trans (if_pos h))
      have HY : Hid (¬ j = 2 → two a b (nxt (l.drop i)) = two a b j) := Lib.hid (fun h => by rw [← HE.out, hnx, if_neg h])
      clear hcc hy hj hnx hc
      by_cases h2 : j = 2
      · subst h2
        have h2a : ((2 : Int) == a) = false := by simpa using H2.out.1
        have h2b : ((2 : Int) == b) = false := by simpa using H2.out.2
        go_wp2_with (first | (go_at_call 12; refine (HO.out _).mono ?_; rintro e w1 ⟨rfl, hB1⟩) | fail)
        go_roundg (n - (k + 1))
        case measure => omega
        case rel => exact ⟨k + 1, by go_num, rfl, by omega, Lib.hid ((HX.out (by first | trivial | rfl)).symm.trans HE.out), hB.trans (hB1.mono hB.size)⟩
      · have HQ := Lib.hid (HY.out h2)
        have h2b' : (j == 2) = false := by simpa using h2
        clear HY HX
        by_cases hja : j = a
        · have HT : Hid (two a b (nxt (l.drop i)) = true) := Lib.hid (by rw [HQ.out]; unfold two; rw [decide_eq_true hja]; rfl)
          have hjab : (j == a) = true := by simpa using hja
          clear hja
          go_wp2_with (first | (go_at_call 12; refine (HO.out _).mono ?_; rintro e w1 ⟨rfl, hB1⟩) | fail)
          go_ret
          exact ⟨by rw [HT.out]; rfl, hB.trans (hB1.mono hB.size)⟩
        · have hjab : (j == a) = false := by simpa using hja
          by_cases hjb : j = b
          · have HT : Hid (two a b (nxt (l.drop i)) = true) := Lib.hid (by rw [HQ.out]; unfold two; rw [decide_eq_true hjb]; simp)
            have hjbb : (j == b) = true := by simpa using hjb
            clear hja hjb
            go_wp2_with (first | (go_at_call 12; refine (HO.out _).mono ?_; rintro e w1 ⟨rfl, hB1⟩) | fail)
            go_ret
            exact ⟨by rw [HT.out]; rfl, hB.trans (hB1.mono hB.size)⟩
          · have HT : Hid (two a b (nxt (l.drop i)) = false) := Lib.hid (by rw [HQ.out]; unfold two; rw [decide_eq_false hja, decide_eq_false hjb]; rfl)
            have hjbb : (j == b) = false := by simpa using hjb
            clear hja hjb
            go_wp2_with (first | (go_at_call 12; refine (HO.out _).mono ?_; rintro e w1 ⟨rfl, hB1⟩) | fail)
            go_ret
            exact ⟨by rw [HT.out]; rfl, hB.trans (hB1.mono hB.size)⟩
    · obtain rfl : k = n := by omega
      have hltz : ¬ ((k : Nat) : Int) < (k : Int) := by omega
      have HJ : Hid (two a b (nxt (l.drop i)) = false) := Lib.hid (by rw [← HE.out, nxt_end (by rw [HN.out]; exact Nat.le_refl _)]; exact H0.out)
      go_wp2_with fail
      go_ret
      exact ⟨by rw [HJ.out]; rfl, hB⟩

set_option maxRecDepth 100000 in
set_option maxHeartbeats 2000000 in
theorem reachB_any (l : List Int) (i : Nat) (x : Int) (hx : (i : Int) - 1 = x) (a b : Int) (ha : a ≠ 2) (hb2 : b ≠ 2) (ha0 : a ≠ 0) (hb0 : b ≠ 0) (A : Option Addr) (n c : Nat) (w : World) (hn : l.length = n) (hi : i ≤ n) (hn1 : n ≤ 1000000) (hC : C32 l) (hr : Row w w.heap.size A (cl .i32 l)) : Calls Tryz.prog 13 #[.slice A n c, .int .i64 x, .int .i64 (-1), .int .u8 a, .int .u8 b] w (IsB (two a b (nxt (l.take i).reverse)) w) := by
  have HN := Lib.hid hn
  have HC := Lib.hid hC
  have H0 : Hid (two a b 0 = false) := Lib.hid (by unfold two; rw [decide_eq_false (Ne.symm ha0), decide_eq_false (Ne.symm hb0)]; rfl)
  have H2 : Hid (2 ≠ a ∧ 2 ≠ b) := Lib.hid ⟨Ne.symm ha, Ne.symm hb2⟩
  have HXI := Lib.hid hx
  clear hn hC ha hb2 ha0 hb0 hx
  go_enter Tryz.func13, Tryz.ntmps13
  go_wp2_with fail
  go_loopg [1] i (fun m s1 wr => ∃ k : Nat, s1 = .int .i64 ((k : Int) - 1) ∧ m = k ∧ k ≤ i ∧ Hid (nxt (l.take k).reverse = nxt (l.take i).reverse) ∧ Below w.heap.size w wr)
  case atStart => exact ⟨i, by rw [HXI.out], rfl, Nat.le_refl _, Lib.hid rfl, Below.refl _ _⟩
  case round =>
    obtain ⟨k, rfl, hm, hk, HE, hB⟩ := hrel
    cases k with
    | succ k =>
      have e1 : ((k + 1 : Nat) : Int) - 1 = (k : Int) := by omega
      rw [e1]
      clear e1
      have h0z : (0 : Int) ≤ (k : Int) := by omega
      have hltz : (k : Int) < (n : Int) := by omega
      obtain ⟨b', o, rfl, hb, hcc⟩ := (hr.below hB).at_ (by have := HN.out; simp; omega)
      have c0 := row_cell hcc k (by rw [HN.out]; omega)
      have hc := HC.out _ (mems (l := l) (i := k) (by rw [HN.out]; omega))
      obtain ⟨y, hy⟩ : ∃ y, l[k]! = y := ⟨_, rfl⟩
      have hnx := nxt_take (l := l) (k := k) (by rw [HN.out]; omega)
      rw [hy] at c0 hnx hc
      have HO := Lib.hid (fun w => RefOf_any y w hc.1 hc.2)
      have HR := fun w => (rfld (of y) w).1
      unfold jt at hnx
      generalize of y = p at HO HR hnx
      obtain ⟨j, hj⟩ : ∃ j, g p 2 = j := ⟨_, rfl⟩
      rw [hj] at HR hnx
      have HX : Hid (j = 2 → nxt (l.take (k + 1)).reverse = nxt (l.take k).reverse) := Lib.hid (fun h => hnx.trans (if_pos h))
      have HY : Hid (¬ j = 2 → two a b (nxt (l.take i).reverse) = two a b j) := Lib.hid (fun h => by rw [← HE.out, hnx, if_neg h])
      clear hcc hy hj hnx hc
      by_cases h2 : j = 2
      · subst h2
        have h2a : ((2 : Int) == a) = false := by simpa using H2.out.1
        have h2b : ((2 : Int) == b) = false := by simpa using H2.out.2
        go_wp2_with (first | (go_at_call 12; refine (HO.out _).mono ?_; rintro e w1 ⟨rfl, hB1⟩) | fail)
        go_roundg k
        case measure => omega
        case rel => exact ⟨k, by go_num, rfl, by omega, Lib.hid ((HX.out (by first | trivial | rfl)).symm.trans HE.out), hB.trans (hB1.mono hB.size)⟩
      · have HQ := Lib.hid (HY.out h2)
        have h2b' : (j == 2) = false := by simpa using h2
        clear HY HX
        by_cases hja : j = a
        · have HT : Hid (two a b (nxt (l.take i).reverse) = true) := Lib.hid (by rw [HQ.out]; unfold two; rw [decide_eq_true hja]; rfl)
          have hjab : (j == a) = true := by simpa using hja
          clear hja
          go_wp2_with (first | (go_at_call 12; refine (HO.out _).mono ?_; rintro e w1 ⟨rfl, hB1⟩) | fail)
          go_ret
          exact ⟨by rw [HT.out]; rfl, hB.trans (hB1.mono hB.size)⟩
        · have hjab : (j == a) = false := by simpa using hja
          by_cases hjb : j = b
          · have HT : Hid (two a b (nxt (l.take i).reverse) = true) := Lib.hid (by rw [HQ.out]; unfold two; rw [decide_eq_true hjb]; simp)
            have hjbb : (j == b) = true := by simpa using hjb
            clear hja hjb
            go_wp2_with (first | (go_at_call 12; refine (HO.out _).mono ?_; rintro e w1 ⟨rfl, hB1⟩) | fail)
            go_ret
            exact ⟨by rw [HT.out]; rfl, hB.trans (hB1.mono hB.size)⟩
          · have HT : Hid (two a b (nxt (l.take i).reverse) = false) := Lib.hid (by rw [HQ.out]; unfold two; rw [decide_eq_false hja, decide_eq_false hjb]; rfl)
            have hjbb : (j == b) = false := by simpa using hjb
            clear hja hjb
            go_wp2_with (first | (go_at_call 12; refine (HO.out _).mono ?_; rintro e w1 ⟨rfl, hB1⟩) | fail)
            go_ret
            exact ⟨by rw [HT.out]; rfl, hB.trans (hB1.mono hB.size)⟩
    | zero =>
      have HJ : Hid (two a b (nxt (l.take i).reverse) = false) := Lib.hid (by rw [← HE.out]; exact H0.out)
      have e1 : ((0 : Nat) : Int) - 1 = -1 := by omega
      rw [e1]
      clear e1
      go_wp2_with fail
      go_ret
      exact ⟨by rw [HJ.out]; rfl, hB⟩

/-- has the one at a place, if there is such a place, a script? -/
def scA (l : List Int) (x : Int) (s : Int) : Bool := decide (0 ≤ x) && (decide (x < l.length) && decide (sc l[x.toNat]! = s))
set_option maxRecDepth 100000 in
set_option maxHeartbeats 2000000 in
theorem scriptOne_any (l : List Int) (x s : Int) (A : Option Addr) (n c : Nat) (w : World) (hn : l.length = n) (hx0 : -1 ≤ x) (hx1 : x ≤ n) (hn1 : n ≤ 1000000) (hC : C32 l) (hr : Row w w.heap.size A (cl .i32 l)) : Calls Tryz.prog 15 #[.slice A n c, .int .i64 x, .int .i64 x, .int .u8 s] w (IsB (scA l x s) w) := by
  unfold scA
  rw [hn]
  by_cases h0 : 0 ≤ x
  · by_cases h1 : x < n
    · obtain ⟨p, rfl⟩ : ∃ p : Nat, x = (p : Int) := ⟨x.toNat, by omega⟩
      obtain ⟨b, o, rfl, hb, hcc⟩ := hr.at_ (by simp; omega)
      have c0 := row_cell hcc p (by omega)
      have hc := hC _ (mems (l := l) (i := p) (by omega))
      have e : ((p : Int)).toNat = p := rfl
      rw [e, decide_eq_true h0, decide_eq_true h1]
      obtain ⟨y, hy⟩ : ∃ y, l[p]! = y := ⟨_, rfl⟩
      rw [hy] at c0 hc ⊢
      have HO := Lib.hid (fun w => RefOf_any y w hc.1 hc.2)
      have HR := fun w => (rfld (of y) w).2.2
      unfold sc
      generalize of y = q at HO HR ⊢
      obtain ⟨z, hz⟩ : ∃ z, g q 4 = z := ⟨_, rfl⟩
      rw [hz] at HR ⊢
      have hne : ¬ (p : Int) + 1 ≤ (p : Int) := by omega
      have hwp : IntKind.i64.wrap ((p : Int) + 1) = (p : Int) + 1 := IntWalk.i64_in _ (by omega)
      clear hcc hy hz hc hn hr hC e
      by_cases hs : z = s
      · have hsb : (z == s) = true := by simpa using hs
        rw [show (true && (true && decide (z = s))) = true from by rw [decide_eq_true hs]; rfl]
        clear hs
        go_enter Tryz.func15, Tryz.ntmps15
        go_wp2_with fail
        go_loopg [9] 0 (fun m s9 wr => s9 = .int .i64 (p : Int) ∧ wr = w)
        case atStart => exact ⟨rfl, rfl⟩
        case round =>
          obtain ⟨rfl, rfl⟩ := hrel
          go_wp2_with (first | (go_at_call 12; refine (HO.out _).mono ?_; rintro e w1 ⟨rfl, hB1⟩) | fail)
          go_ret
          exact ⟨rfl, hB1⟩
      · have hsb : (z == s) = false := by simpa using hs
        rw [show (true && (true && decide (z = s))) = false from by rw [decide_eq_false hs]; rfl]
        clear hs
        go_enter Tryz.func15, Tryz.ntmps15
        go_wp2_with fail
        go_loopg [9] 1 (fun m s9 wr => (m = 1 ∧ s9 = .int .i64 (p : Int) ∧ wr = w) ∨ (m = 0 ∧ s9 = .int .i64 ((p : Int) + 1) ∧ Below w.heap.size w wr))
        case atStart => exact .inl ⟨rfl, rfl, rfl⟩
        case round =>
          rcases hrel with ⟨hm, rfl, rfl⟩ | ⟨_, rfl, hB⟩
          · go_wp2_with (first | (go_at_call 12; refine (HO.out _).mono ?_; rintro e w1 ⟨rfl, hB1⟩) | fail)
            go_roundg 0
            case measure => omega
            case rel => exact .inr ⟨rfl, by go_num, hB1⟩
          · go_wp2_with fail
            go_ret
            exact ⟨rfl, hB⟩
    · rw [decide_eq_true h0, decide_eq_false h1]
      have hne : ¬ x + 1 ≤ x := by omega
      have hwp : IntKind.i64.wrap (x + 1) = x + 1 := IntWalk.i64_in _ (by omega)
      clear hn hr hC
      go_enter Tryz.func15, Tryz.ntmps15
      go_wp2_with fail
      go_loopg [9] 1 (fun m s9 wr => (m = 1 ∧ s9 = .int .i64 x ∧ wr = w) ∨ (m = 0 ∧ s9 = .int .i64 (x + 1) ∧ wr = w))
      case atStart => exact .inl ⟨rfl, rfl, rfl⟩
      case round =>
        rcases hrel with ⟨hm, rfl, rfl⟩ | ⟨_, rfl, rfl⟩
        · go_wp2_with fail
          go_roundg 0
          case measure => omega
          case rel => exact .inr ⟨rfl, by go_num, rfl⟩
        · go_wp2_with fail
          go_ret
          exact ⟨rfl, Below.refl _ _⟩
  · rw [decide_eq_false h0]
    have hne : ¬ x + 1 ≤ x := by omega
    have hwp : IntKind.i64.wrap (x + 1) = x + 1 := IntWalk.i64_in _ (by omega)
    clear hn hr hC
    go_enter Tryz.func15, Tryz.ntmps15
    go_wp2_with fail
    go_loopg [9] 1 (fun m s9 wr => (m = 1 ∧ s9 = .int .i64 x ∧ wr = w) ∨ (m = 0 ∧ s9 = .int .i64 (x + 1) ∧ wr = w))
    case atStart => exact .inl ⟨rfl, rfl, rfl⟩
    case round =>
      rcases hrel with ⟨hm, rfl, rfl⟩ | ⟨_, rfl, rfl⟩
      · go_wp2_with fail
        go_roundg 0
        case measure => omega
        case rel => exact .inr ⟨rfl, by go_num, rfl⟩
      · go_wp2_with fail
        go_ret
        exact ⟨rfl, Below.refl _ _⟩
end Go.Proofs.YtmeihnhghdmjiaaGreatDoor.Ctx
