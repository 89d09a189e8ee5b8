/-
  Rows rise, and no two have a code point in common; each code point of a row has what the row says, and those in no row have nothing but a width of 1: for every row, every code point in it, every code point.
-/
import Derived.Test.YtioagoehmdppiaaDoorUcdOpen
import Derived.Test.YtioagoehmdppiaaDoorUcdCount
import Derived.IntWalk
import Derived.Test.YtioagoehmdppiaaDoorUcdLaid
import Derived.Test.YtioagoehmdppiaaDoorTie
import Derived.Test.YtioagoehmdppiaaDoorCards
import Derived.ProofKit
import Derived.Lay
import Derived.Stop.Joined
import Derived.SevenTiedAt
namespace Go.Proofs.YtioagoehmdppiaaDoor.ucdRows
open Go.ChangeShapes Go.WideShapes Go.ChangeAt Go.RowKit Ucd

/-- the loop over the rows -/
def RRel (g : Nat) (r : Int) (w : World) (c i : Value) (wr : World) : Prop :=
  ∃ k : Nat, k ≤ 166 ∧ i = .int .i64 k ∧ c = .int .i64 (cnt r k) ∧ TabAt wr g ∧ BrIs wr ∧ Below w.heap.size w wr

theorem Of_eq {r : Int} {p : List Int} (h : of r = p) (w : World) : Calls Tryd.prog 10 #[.int .i32 r] w fun e w' => e = .returned (pv p) ∧ Below w.heap.size w w' := by
  subst h
  exact Of_any r w

theorem i32_in (x : Int) (h0 : -2147483648 ≤ x) (h1 : x ≤ 2147483647) : IntKind.i32.wrap x = x := by
  simp [IntKind.wrap, IntKind.bits, IntKind.signed]
  omega

/-- a row in a block of its own -/
theorem nine (w : World) (i : Nat) : ∀ W, w.alloc (.cells #[.int .i32 (fr i), .int .i32 (to i), .int .u8 (g (pr i) 0), .int .u8 (g (pr i) 1), .int .u8 (g (pr i) 2), .int .u8 (g (pr i) 3), .int .u8 (g (pr i) 4), .int .u8 (g (pr i) 5), .int .u8 (g (pr i) 6)] 27) = W →
    W.cell? ⟨w.heap.size, 0, none⟩ = some (.int .i32 (fr i)) ∧ W.cell? ⟨w.heap.size, 1, none⟩ = some (.int .i32 (to i)) ∧ W.cell? ⟨w.heap.size, 2, none⟩ = some (.int .u8 (g (pr i) 0)) ∧ W.cell? ⟨w.heap.size, 3, none⟩ = some (.int .u8 (g (pr i) 1)) ∧ W.cell? ⟨w.heap.size, 4, none⟩ = some (.int .u8 (g (pr i) 2)) ∧ W.cell? ⟨w.heap.size, 5, none⟩ = some (.int .u8 (g (pr i) 3)) ∧ W.cell? ⟨w.heap.size, 6, none⟩ = some (.int .u8 (g (pr i) 4)) ∧ W.cell? ⟨w.heap.size, 7, none⟩ = some (.int .u8 (g (pr i) 5)) ∧ W.cell? ⟨w.heap.size, 8, none⟩ = some (.int .u8 (g (pr i) 6)) ∧ Below w.heap.size w W ∧ w.heap.size < W.heap.size := by
  rintro W rfl
  exact ⟨by simp, by simp, by simp, by simp, by simp, by simp, by simp, by simp, by simp, (Below.refl _ _).alloc (Nat.le_refl _) _, by simp⟩

set_option maxRecDepth 100000 in
set_option maxHeartbeats 1000000 in
theorem walk (n at_ r : Int) (w : World) (hn : 0 ≤ n) (hn2 : n ≤ 255) (ha : 0 ≤ at_) (ha2 : at_ ≤ 65535) (_hr : -2147483648 ≤ r) (_hr2 : r ≤ 2147483647) (hB : BrIs w) : Calls Tryd.prog 4 #[.int .u8 n, .int .u16 at_, .int .i32 r] w fun e w' => e = .returned (.bool true) ∧ Below w.heap.size w w' := by
  have HB := Lib.hid hB
  clear hB
  go_enter Tryd.func4, Tryd.ntmps4
  go_wp2_with (go_at_call 8; refine (Table_out _).mono ?_; rintro e w1 ⟨gt, cap, rfl, hcap, hgt, hT, hb1⟩)
  have HB1 := Lib.hid (HB.out.go hb1)
  have HT1 := Lib.hid hT
  clear HB hT
  go_loopw [8, 18] (fun c i wr => RRel gt r w c i wr) (fun _ i _ => 166 - (intOf i).toNat)
  case atStart => exact ⟨0, by omega, rfl, rfl, HT1.out, HB1.out, hb1⟩
  case round =>
    clear HB1 HT1 hb1
    obtain ⟨k, hk, rfl, rfl, hT, hBr, hbel⟩ := hrel
    have hcl := cnt_le (r := r) k hk
    have HT := Lib.hid hT
    have HR := Lib.hid hBr
    have hgl := hT.1
    clear hT hBr
    by_cases hlt : k < 166
    · obtain ⟨t0, t1, t2, t3, t4, t5, t6, t7, t8⟩ := HT.out.cells k hlt
      have hfb := fr_bd hlt
      go_wp2_with fail
      obtain ⟨W, hW⟩ : ∃ W, wr.alloc (.cells #[.int .i32 (fr k), .int .i32 (to k), .int .u8 (g (pr k) 0), .int .u8 (g (pr k) 1), .int .u8 (g (pr k) 2), .int .u8 (g (pr k) 3), .int .u8 (g (pr k) 4), .int .u8 (g (pr k) 5), .int .u8 (g (pr k) 6)] 27) = W := ⟨_, rfl⟩
      obtain ⟨x0, x1, x2, x3, x4, x5, x6, x7, x8, hbW, hsW⟩ := nine wr k W hW
      rw [hW]
      clear hW t0 t1 t2 t3 t4 t5 t6 t7 t8
      have HTW := Lib.hid (HT.out.go hbW)
      have HRW := Lib.hid (HR.out.go hbW)
      have hbelW := upB hbel hbW
      obtain ⟨X, hX⟩ : ∃ X, wr.heap.size = X := ⟨_, rfl⟩
      rw [hX] at x0 x1 x2 x3 x4 x5 x6 x7 x8 hsW ⊢
      clear hX HT HR hbW hbel hgl
      have d1 : decide (to k < fr k) = false := decide_eq_false (by omega)
      have HQ : Hid (∀ q, TabAt (W.drewN q) gt ∧ BrIs (W.drewN q) ∧ Below w.heap.size w (W.drewN q)) := Lib.hid (fun q => ⟨⟨HTW.out.1, HTW.out.2⟩, HRW.out, ⟨hbelW.os, hbelW.tape, hbelW.output, hbelW.size, hbelW.block⟩⟩)
      rcases Nat.eq_zero_or_pos k with hk0 | hk0
      · subst hk0
        have d2 : decide ((0 : Int) < ((0 : Nat) : Int)) = false := rfl
        go_quiet (fail)
        obtain ⟨hTV, hRV, hbV⟩ := HQ.out nq
        have HTV := Lib.hid hTV
        have HRV := Lib.hid hRV
        clear hTV hRV HQ HTW HRW hbelW
        by_cases h1 : fr 0 ≤ r
        · by_cases h2 : r ≤ to 0
          · have HO := Lib.hid (of_row hlt h1 h2).2
            have HC := Lib.hid (cnt_yes h1 h2)
            go_wp2_with fail
            go_region_held3 (fun w' => w'.cell? ⟨X, 2, none⟩ = some (.int .u8 (g (pr 0) 0)) ∧ w'.cell? ⟨X, 3, none⟩ = some (.int .u8 (g (pr 0) 1)) ∧ w'.cell? ⟨X, 4, none⟩ = some (.int .u8 (g (pr 0) 2)) ∧ w'.cell? ⟨X, 5, none⟩ = some (.int .u8 (g (pr 0) 3)) ∧ w'.cell? ⟨X, 6, none⟩ = some (.int .u8 (g (pr 0) 4)) ∧ w'.cell? ⟨X, 7, none⟩ = some (.int .u8 (g (pr 0) 5)) ∧ w'.cell? ⟨X, 8, none⟩ = some (.int .u8 (g (pr 0) 6))) (first | go_keep | exact ⟨x2, x3, x4, x5, x6, x7, x8⟩ | exact ⟨z2, z3, z4, z5, z6, z7, z8⟩) (first
              | (go_at_call 10; refine (Of_eq HO.out _).mono ?_; rintro e w2 ⟨rfl, hb2⟩; have z2 : w2.cell? ⟨X, 2, none⟩ = _ := (hb2.cell (p := ⟨X, 2, none⟩) hsW).trans x2; have z3 : w2.cell? ⟨X, 3, none⟩ = _ := (hb2.cell (p := ⟨X, 3, none⟩) hsW).trans x3; have z4 : w2.cell? ⟨X, 4, none⟩ = _ := (hb2.cell (p := ⟨X, 4, none⟩) hsW).trans x4; have z5 : w2.cell? ⟨X, 5, none⟩ = _ := (hb2.cell (p := ⟨X, 5, none⟩) hsW).trans x5; have z6 : w2.cell? ⟨X, 6, none⟩ = _ := (hb2.cell (p := ⟨X, 6, none⟩) hsW).trans x6; have z7 : w2.cell? ⟨X, 7, none⟩ = _ := (hb2.cell (p := ⟨X, 7, none⟩) hsW).trans x7; have z8 : w2.cell? ⟨X, 8, none⟩ = _ := (hb2.cell (p := ⟨X, 8, none⟩) hsW).trans x8))
            have hb2' : Below (W.drewN nq).heap.size (W.drewN nq) w2 := ⟨hb2.os, hb2.tape, hb2.output, hb2.size, hb2.block⟩
            go_wp2
            go_roundw
            case rel => exact ⟨0 + 1, by omega, by go_num, by rw [HC.out]; go_num, HTV.out.go hb2', HRV.out.go hb2', upB hbV hb2'⟩
            case measure => simp [intOf]
          · have HC : Hid (cnt r (0 + 1) = cnt r 0) := Lib.hid (cnt_no (fun h => h2 h.2))
            go_wp2
            go_roundw
            case rel => exact ⟨0 + 1, by omega, by go_num, by rw [HC.out], HTV.out, HRV.out, hbV⟩
            case measure => simp [intOf]
        · have HC : Hid (cnt r (0 + 1) = cnt r 0) := Lib.hid (cnt_no (fun h => h1 h.1))
          go_wp2
          go_roundw
          case rel => exact ⟨0 + 1, by omega, by go_num, by rw [HC.out], HTV.out, HRV.out, hbV⟩
          case measure => simp [intOf]
      · obtain ⟨m, hm⟩ : ∃ m, k = m + 1 := ⟨k - 1, by omega⟩
        have hri := rise1 (i := m) (by omega)
        obtain ⟨y0, y1, y2⟩ := HTW.out.cells m (by omega)
        clear y0 y2
        have e1 : IntKind.i64.wrap ((k : Int) - 1) = (m : Int) := by rw [IntWalk.i64_in _ (by omega)]; omega
        have d2 : decide ((0 : Int) < (k : Int)) = true := decide_eq_true (by omega)
        have d3 : decide (fr k ≤ to m) = false := decide_eq_false (by rw [hm]; omega)
        have m0 : (0 : Int) ≤ (m : Int) := by omega
        have m1 : (m : Int) < 166 := by omega
        have HM := Lib.hid hm
        clear hm hri
        go_quiet (fail)
        obtain ⟨hTV, hRV, hbV⟩ := HQ.out nq
        have HTV := Lib.hid hTV
        have HRV := Lib.hid hRV
        clear hTV hRV HQ HTW HRW hbelW
        by_cases h1 : fr k ≤ r
        · by_cases h2 : r ≤ to k
          · have HO := Lib.hid (of_row hlt h1 h2).2
            have HC := Lib.hid (cnt_yes h1 h2)
            go_wp2_with fail
            go_region_held3 (fun w' => w'.cell? ⟨X, 2, none⟩ = some (.int .u8 (g (pr k) 0)) ∧ w'.cell? ⟨X, 3, none⟩ = some (.int .u8 (g (pr k) 1)) ∧ w'.cell? ⟨X, 4, none⟩ = some (.int .u8 (g (pr k) 2)) ∧ w'.cell? ⟨X, 5, none⟩ = some (.int .u8 (g (pr k) 3)) ∧ w'.cell? ⟨X, 6, none⟩ = some (.int .u8 (g (pr k) 4)) ∧ w'.cell? ⟨X, 7, none⟩ = some (.int .u8 (g (pr k) 5)) ∧ w'.cell? ⟨X, 8, none⟩ = some (.int .u8 (g (pr k) 6))) (first | go_keep | exact ⟨x2, x3, x4, x5, x6, x7, x8⟩ | exact ⟨z2, z3, z4, z5, z6, z7, z8⟩) (first
              | (go_at_call 10; refine (Of_eq HO.out _).mono ?_; rintro e w2 ⟨rfl, hb2⟩; have z2 : w2.cell? ⟨X, 2, none⟩ = _ := (hb2.cell (p := ⟨X, 2, none⟩) hsW).trans x2; have z3 : w2.cell? ⟨X, 3, none⟩ = _ := (hb2.cell (p := ⟨X, 3, none⟩) hsW).trans x3; have z4 : w2.cell? ⟨X, 4, none⟩ = _ := (hb2.cell (p := ⟨X, 4, none⟩) hsW).trans x4; have z5 : w2.cell? ⟨X, 5, none⟩ = _ := (hb2.cell (p := ⟨X, 5, none⟩) hsW).trans x5; have z6 : w2.cell? ⟨X, 6, none⟩ = _ := (hb2.cell (p := ⟨X, 6, none⟩) hsW).trans x6; have z7 : w2.cell? ⟨X, 7, none⟩ = _ := (hb2.cell (p := ⟨X, 7, none⟩) hsW).trans x7; have z8 : w2.cell? ⟨X, 8, none⟩ = _ := (hb2.cell (p := ⟨X, 8, none⟩) hsW).trans x8))
            have hb2' : Below (W.drewN nq).heap.size (W.drewN nq) w2 := ⟨hb2.os, hb2.tape, hb2.output, hb2.size, hb2.block⟩
            go_wp2
            go_roundw
            case rel => exact ⟨k + 1, by omega, by go_num, by rw [HC.out]; go_num, HTV.out.go hb2', HRV.out.go hb2', upB hbV hb2'⟩
            case measure => simp [intOf]; omega
          · have HC : Hid (cnt r (k + 1) = cnt r k) := Lib.hid (cnt_no (fun h => h2 h.2))
            go_wp2
            go_roundw
            case rel => exact ⟨k + 1, by omega, by go_num, by rw [HC.out], HTV.out, HRV.out, hbV⟩
            case measure => simp [intOf]; omega
        · have HC : Hid (cnt r (k + 1) = cnt r k) := Lib.hid (cnt_no (fun h => h1 h.1))
          go_wp2
          go_roundw
          case rel => exact ⟨k + 1, by omega, by go_num, by rw [HC.out], HTV.out, HRV.out, hbV⟩
          case measure => simp [intOf]; omega
    · obtain rfl : k = 166 := by omega
      obtain ⟨i, hi⟩ : ∃ i : Nat, (i : Int) = n % 166 := ⟨(n % 166).toNat, by omega⟩
      have hi6 : i < 166 := by omega
      obtain ⟨t0, t1, t2, t3, t4, t5, t6, t7, t8⟩ := HT.out.cells i hi6
      have hfb := fr_bd hi6
      have HI := Lib.hid hi
      clear hi
      have hti : (n % 166).toNat = i := by have := HI.out; omega
      have hni : n % 166 = (i : Int) := HI.out.symm
      go_wp2_with fail
      obtain ⟨W, hW⟩ : ∃ W, wr.alloc (.cells #[.int .i32 (fr i), .int .i32 (to i), .int .u8 (g (pr i) 0), .int .u8 (g (pr i) 1), .int .u8 (g (pr i) 2), .int .u8 (g (pr i) 3), .int .u8 (g (pr i) 4), .int .u8 (g (pr i) 5), .int .u8 (g (pr i) 6)] 27) = W := ⟨_, rfl⟩
      obtain ⟨x0, x1, x2, x3, x4, x5, x6, x7, x8, hbW, hsW⟩ := nine wr i W hW
      rw [hW]
      clear hW t0 t1 t2 t3 t4 t5 t6 t7 t8
      have HRW := Lib.hid (HR.out.go hbW)
      have hbelW := upB hbel hbW
      obtain ⟨X, hX⟩ : ∃ X, wr.heap.size = X := ⟨_, rfl⟩
      rw [hX] at x0 x1 x2 x3 x4 x5 x6 x7 x8 hsW ⊢
      clear hX HT HR hbW hbel hgl hti hni
      obtain ⟨d, hd⟩ : ∃ d, d = to i - fr i + 1 := ⟨_, rfl⟩
      obtain ⟨q, hq⟩ : ∃ q, q = at_ % d := ⟨_, rfl⟩
      have hq0 : 0 ≤ q := by rw [hq]; exact Int.emod_nonneg _ (by omega)
      have hq1 : q < d := by rw [hq]; exact Int.emod_lt_of_pos _ (by omega)
      obtain ⟨c, hc⟩ : ∃ c, c = fr i + q := ⟨_, rfl⟩
      have HO := Lib.hid (of_row (r := c) hi6 (by omega) (by omega)).2
      have e1 : IntKind.i32.wrap (to i - fr i) = to i - fr i := i32_in _ (by omega) (by omega)
      have e2 : IntKind.i32.wrap (to i - fr i + 1) = d := by rw [hd]; exact i32_in _ (by omega) (by omega)
      have e3 : IntKind.i64.wrap d = d := IntWalk.i64_in _ (by omega)
      have e4 : IntKind.i64.wrap at_ = at_ := IntWalk.i64_in _ (by omega)
      have e5 : at_.tmod d = q := by rw [Int.tmod_eq_emod_of_nonneg ha]; exact hq.symm
      have e6 : IntKind.i64.wrap q = q := IntWalk.i64_in _ (by omega)
      have e7 : IntKind.i32.wrap q = q := i32_in _ (by omega) (by omega)
      have e8 : IntKind.i32.wrap (fr i + q) = c := by rw [hc]; exact i32_in _ (by omega) (by omega)
      have e9 : ¬ d = 0 := by omega
      have e10 : (d == 0) = false := by simpa using e9
      clear hd hq hc hq0 hq1
      go_region_held3 (fun w' => w'.cell? ⟨X, 0, none⟩ = some (.int .i32 (fr i)) ∧ w'.cell? ⟨X, 1, none⟩ = some (.int .i32 (to i)) ∧ w'.cell? ⟨X, 2, none⟩ = some (.int .u8 (g (pr i) 0)) ∧ w'.cell? ⟨X, 3, none⟩ = some (.int .u8 (g (pr i) 1)) ∧ w'.cell? ⟨X, 4, none⟩ = some (.int .u8 (g (pr i) 2)) ∧ w'.cell? ⟨X, 5, none⟩ = some (.int .u8 (g (pr i) 3)) ∧ w'.cell? ⟨X, 6, none⟩ = some (.int .u8 (g (pr i) 4)) ∧ w'.cell? ⟨X, 7, none⟩ = some (.int .u8 (g (pr i) 5)) ∧ w'.cell? ⟨X, 8, none⟩ = some (.int .u8 (g (pr i) 6))) (first | go_keep | exact ⟨x0, x1, x2, x3, x4, x5, x6, x7, x8⟩ | exact ⟨z0, z1, z2, z3, z4, z5, z6, z7, z8⟩) (first
        | (go_at_call 10; refine (Of_eq HO.out _).mono ?_; rintro e w2 ⟨rfl, hb2⟩; have z0 : w2.cell? ⟨X, 0, none⟩ = _ := (hb2.cell (p := ⟨X, 0, none⟩) hsW).trans x0; have z1 : w2.cell? ⟨X, 1, none⟩ = _ := (hb2.cell (p := ⟨X, 1, none⟩) hsW).trans x1; have z2 : w2.cell? ⟨X, 2, none⟩ = _ := (hb2.cell (p := ⟨X, 2, none⟩) hsW).trans x2; have z3 : w2.cell? ⟨X, 3, none⟩ = _ := (hb2.cell (p := ⟨X, 3, none⟩) hsW).trans x3; have z4 : w2.cell? ⟨X, 4, none⟩ = _ := (hb2.cell (p := ⟨X, 4, none⟩) hsW).trans x4; have z5 : w2.cell? ⟨X, 5, none⟩ = _ := (hb2.cell (p := ⟨X, 5, none⟩) hsW).trans x5; have z6 : w2.cell? ⟨X, 6, none⟩ = _ := (hb2.cell (p := ⟨X, 6, none⟩) hsW).trans x6; have z7 : w2.cell? ⟨X, 7, none⟩ = _ := (hb2.cell (p := ⟨X, 7, none⟩) hsW).trans x7; have z8 : w2.cell? ⟨X, 8, none⟩ = _ := (hb2.cell (p := ⟨X, 8, none⟩) hsW).trans x8))
      have hb2' : Below W.heap.size W w2 := ⟨hb2.os, hb2.tape, hb2.output, hb2.size, hb2.block⟩
      have HR2 := Lib.hid (HRW.out.go hb2')
      have hbel2 := upB hbelW hb2'
      clear HRW hbelW hb2' hb2 z0 z1 z2 z3 z4 z5 z6 z7 z8 e1 e2 e3 e4 e5 e6 e7 e8 e9 e10 hcl
      rcases cnt_all r with hc1 | ⟨hc0, hu⟩
      · go_wp2_with (go_at_call 14; refine (awake_any _ HR2.out).mono ?_; rintro e w3 ⟨rfl, hb3⟩)
        go_ret
        exact ⟨rfl, upB hbel2 hb3⟩
      · have HU : Hid (of r = [0, 0, 0, 0, 0, 0, 1]) := Lib.hid hu
        clear hu
        go_wp2_with (first
          | (go_at_call 10; refine (Of_lit r _ _ _ _ _ _ _ HU.out _).mono ?_; rintro e w3 ⟨rfl, hb3⟩)
          | (go_at_call 14; refine (awake_any _ (HR2.out.go hb3)).mono ?_; rintro e w4 ⟨rfl, hb4⟩))
        go_ret
        exact ⟨rfl, upB (upB hbel2 hb3) hb4⟩

/-! From the walk to the given statement. -/
set_option linter.unusedVariables false
theorem own : ownKnob Tryd.prog.godebug = none := by kernel_rfl
set_option maxRecDepth 100000 in
theorem lifted (os : Os) (started : os.Started) (H : Type) (enc : TypeId × Value → H) :
    ReturnsInHanded {} Tryd.checked os 4 .any (fun w args => (Rows.ucdRowsSpec.pre enc Tryd.prog Tryd.f4 [] false w args ∧ laidMetH Tryd.prog Rows.ucdRowsRow.laid w) ∧ sizedMet enc Tryd.prog Tryd.f4 (OpenSpec.ofChange Rows.ucdRowsSpec) false w args)
      (Rows.ucdRowsSpec.post enc Tryd.prog Tryd.f4 false true false false) := by
  refine returnsInHanded_of_change_and (C := Tryd.checked) (X := fun w _ => laidMetH Tryd.prog Rows.ucdRowsRow.laid w) (fun _ _ _ hh h => h.of_heap hh) own started (by kernel_rfl) Tryd.func4
    (ChangeSpec.witness_shaped (enc := enc) (C := Tryd.checked) (os := os) (X := fun w _ => laidMetH Tryd.prog Rows.ucdRowsRow.laid w) false (World.laidAll Tryd.prog os Rows.ucdRowsRow.laid) #[.int .u8 0, .int .u16 0, .int .i32 0] 8 (World.laidAll_os _ _ _)
      (World.shaped_of_ZipB (by kernel_rfl) (by kernel_rfl)) (by kernel_rfl) (by kernel_rfl) (by kernel_rfl)
      (by rw [MakeChecks.laidMetH_plain _ _ _ (by kernel_rfl)]; exact laidMet_laidAll _ (by kernel_rfl) (by kernel_rfl))) ?_
  intro W base args ds gs before hval0 hW _ _ hL _
  have hval : ∀ (j : Nat) t v, Tryd.f4.params[j]? = some t → args[j]? = some v → Value.okWide Tryd.prog W .any base t v := hval0
  have hW' := hW
  obtain ⟨p, q, hA0, hV, rfl, _, _⟩ := hW
  have hA : DataW.TrodAll enc Tryd.prog W 0 (fun _ => true) true Tryd.f4.params.toList args.toList ds p := hA0
  rw [Tryd.params4] at hA hval
  obtain ⟨v0, vs0, d0, ds0, p0, q0, hargs, rfl, rfl, h0, r0⟩ := trodAll_cons hA
  obtain ⟨v1, vs1, d1, ds1, p1, q1, rfl, rfl, rfl, h1, r1⟩ := trodAll_cons r0
  obtain ⟨v2, vs2, d2, ds2, p2, q2, rfl, rfl, rfl, h2, r2⟩ := trodAll_cons r1
  obtain ⟨rfl, rfl, rfl⟩ := trodAll_nil r2
  obtain rfl : args = #[v0, v1, v2] := by cases args; simp_all
  obtain ⟨rfl, rfl⟩ := trodVars_none hV
  obtain ⟨a0, rfl, rfl, rfl, w0⟩ := open_int Tryd.underlying5 (hval 0 5 v0 rfl rfl) h0
  have b0 : 0 ≤ a0 ∧ a0 ≤ 255 := by simpa [Lit.wf, IntKind.min, IntKind.max, IntKind.signed, IntKind.bits] using w0
  obtain ⟨a1, rfl, rfl, rfl, w1⟩ := open_int Tryd.underlying36 (hval 1 36 v1 rfl rfl) h1
  have b1 : 0 ≤ a1 ∧ a1 ≤ 65535 := by simpa [Lit.wf, IntKind.min, IntKind.max, IntKind.signed, IntKind.bits] using w1
  obtain ⟨a2, rfl, rfl, rfl, w2⟩ := open_int Tryd.underlying21 (hval 2 21 v2 rfl rfl) h2
  have b2 : -2147483648 ≤ a2 ∧ a2 ≤ 2147483647 := by simpa [Lit.wf, IntKind.min, IntKind.max, IntKind.signed, IntKind.bits] using w2
  clear hA0 hval0
  rw [MakeChecks.laidMetH_plain _ _ _ (by kernel_rfl)] at hL
  have hBr : BrIs W := brIs_of_reads (Lib.laidMet.reads hL (.tail _ (.tail _ (.tail _ (.tail _ (.tail _ (.tail _ (.head _))))))))
  refine (walk a0 a1 a2 W b0.1 b0.2 b1.1 b1.2 b2.1 b2.2 hBr).mono fun e W' ⟨he, bel⟩ => ?_
  subst he
  exact ⟨_, rfl, _, _, _, [], _, [], hW', trodAll_mk1 (shut_bool Tryd.underlying4 _), (trodAll_cons_mk (shut_int Tryd.underlying5 w0) (trodAll_cons_mk (shut_int Tryd.underlying36 w1) (trodAll_cons_mk (shut_int Tryd.underlying21 w2) trodAll_mk0))), rfl, bel.frame _, fun h => by cases h⟩

theorem row_holds : Rows.UcdRowsSaid :=
  OpenClaim.holds_of_wide 4 Tryd.f4 rfl rfl rfl rfl rfl rfl rfl ⟨rfl, rfl, rfl, rfl, rfl⟩ rfl rfl rfl rfl rfl (by kernel_rfl) Tryd.func4 (by kernel_rfl)
    (of_decide_eq_true (by kernel_rfl)) (by unfold Func.isWrapper; first | (rw [if_pos (by decide +kernel)]; kernel_rfl) | (rw [if_neg (by decide +kernel)]; exact ⟨rfl, rfl⟩))
    (fun os started H enc _ => lifted os started H enc)

theorem proved : Rows.UcdRowsCardSaid :=
  Claim7.holds_tied_plain_at .later [] [.data, .data, .data, .data, .sentinel, .sentinel, .data, .pinned] true (true, "bd988b9575ebbf85d13ef5fdc5027332695ade4174a37e91737069d49f722970") true
    row_holds (fun _ h => by cases h) (by kernel_rfl) (fun _ h => by cases h) ucdRows_row_tie rfl ⟨rfl, rfl⟩ (by kernel_rfl) rfl
    (fun f fn hf hfn => by
      obtain rfl : f = 4 := Option.some.inj ((show Tryd.prog.funcNamed "fascia/fascialaw02.UcdRows" = some 4 by kernel_rfl).symm.trans hf) |>.symm
      obtain rfl : fn = Tryd.f4 := (Option.some.inj (Tryd.func4.symm.trans hfn)).symm
      exact ⟨by kernel_rfl, fun j t ht => by
        rw [Tryd.params4] at ht
        have hm : t ∈ [5, 36, 21] := by simpa using Array.mem_of_getElem? ht
        have hall : ([5, 36, 21].all fun u => !Tryd.prog.wantsStandIn u) = true := by kernel_rfl
        exact (show Tryd.prog.wantsStandIn t = false by simpa using List.all_eq_true.1 hall t hm)⟩)
    (by kernel_rfl)
end Go.Proofs.YtioagoehmdppiaaDoor.ucdRows
