/-
  context: At, where nothing is asked for; At at any place.
-/
import Derived.Test.YtmeihnhghdmjiaaGreatDoorCtxE
namespace Go.Proofs.YtmeihnhghdmjiaaGreatDoor.Ctx
open Go.RowKit Go.Maps Ucd
attribute [local go_sem ↓] Go.wp_at_zero Go.wp_at_succ

set_option maxRecDepth 100000 in
set_option maxHeartbeats 1000000 in
theorem At_no (l : List Int) (i : Nat) (A : Option Addr) (n c : Nat) (w : World) (hn : l.length = n) (hi : i < n) (hn1 : n ≤ 1000000) (hC : C32 l) (hk : ¬ kd l[i]! < 8) (hr : Row w w.heap.size A (cl .i32 l)) : Calls Tryz.prog 5 #[.slice A n c, .int .i64 (i : Int)] w (Tells (.int .u8 0) w) := by
  have hr' := hr
  obtain ⟨b, o, rfl, hb, hcc⟩ := hr.at_ (by simp; omega)
  have c0 := row_cell hcc i (by omega)
  have hc := hC _ (mems (l := l) (i := i) (by omega))
  obtain ⟨r, hr0⟩ : ∃ r, l[i]! = r := ⟨_, rfl⟩
  rw [hr0] at c0 hc hk
  have HL := Lib.hid (fun w b (h : CMap w b 9 D9) => look8 r hc.1 hc.2 hk h)
  have HC := Lib.hid conditions_any
  have HK := Lib.hid (key_any r)
  have b0 : (0 : Int) ≤ (i : Int) := by omega
  have b1 : (i : Int) < (n : Int) := by omega
  clear hcc hr0 hc hk hC hr hn hi hn1
  have HB := Lib.hid hb
  clear hb
  go_enter Tryz.func5, Tryz.ntmps5
  go_upto_region 3 with fail
  go_cut [6] (fun s6 wx => s6 = .bool false ∧ Below w.heap.size w wx)
  case first =>
    have cD : w.drew.cell? ⟨b, o + i, none⟩ = some (.int .i32 r) := c0
    have cAD : (w.alloc (.cells #[.int .u8 0, .bool false, .nilFunc] 29)).drew.cell? ⟨b, o + i, none⟩ = some (.int .i32 r) := (Below.cell (B := w.heap.size) (Below.drew (upA w (.cells #[.int .u8 0, .bool false, .nilFunc] 29))) HB.out).trans c0
    go_region_held3 (fun w' => w'.cell? ⟨b, o + i, none⟩ = some (.int .i32 r)) (first
        | with_reducible exact cD
        | with_reducible exact cAD
        | with_reducible exact (Below.cell (B := w.heap.size) hA HB.out).trans c0
        | with_reducible exact (Below.cell (B := w.heap.size) (Below.setCell (Below.setCell (Below.setCell hA hXX _) hXX _) hXX _) HB.out).trans c0
        | with_reducible exact (Below.cell (B := w.heap.size) (Below.alloc hA hA.size _) HB.out).trans c0) (first
      | (go_at_call 10; refine (HC.out _).mono ?_; rintro e w1 ⟨rfl, hm0, hb1⟩; (with_reducible have hbP : Below w.drew.heap.size w.drew w1 := hb1); have hm : CMap w1 w.heap.size 9 D9 := hm0; have hA : Below w.heap.size w w1 := below_undrew hb1; clear hm0 hb1; have hl := HL.out _ _ hm; have hla := HL.out _ _ (CMap.alloc hm (.cells #[.int .u8 0, .bool false, .nilFunc] 29)))
      | (go_at_call 10; refine (HC.out _).mono ?_; rintro e w1 ⟨rfl, hm0, hb1⟩; (with_reducible have hbP : Below (w.alloc (.cells #[.int .u8 0, .bool false, .nilFunc] 29)).drew.heap.size (w.alloc (.cells #[.int .u8 0, .bool false, .nilFunc] 29)).drew w1 := hb1); have hm : CMap w1 (w.heap.size + 1) 9 D9 := CMap.up1 (.cells #[.int .u8 0, .bool false, .nilFunc] 29) hm0; have hA : Below w.heap.size w w1 := upDA (.cells #[.int .u8 0, .bool false, .nilFunc] 29) hb1; have hX : w1.heap[w.heap.size]? = some (.cells #[.int .u8 0, .bool false, .nilFunc] 29) := keptO (w := (w.alloc (.cells #[.int .u8 0, .bool false, .nilFunc] 29)).drew) (alloc_new w (.cells #[.int .u8 0, .bool false, .nilFunc] 29)) hb1; clear hm0 hb1; have hl := HL.out _ _ hm)
      | (go_at_call 11; refine (HK.out _).mono ?_; rintro e w2 ⟨rfl, hb2⟩; (with_reducible have hbP2 : Below w1.heap.size w1 w2 := hb2); have hX2 := keptO hX hb2; obtain ⟨x0, x1, x2, f0, f1, f2⟩ := cells3 hX2; have hXX : w.heap.size ≤ w.heap.size := Nat.le_refl _; have hA' := upB hA hb2; have hm' := CMap.below hm hb2; clear hA hm hl hX; have hA := hA'; have hm := hm'; have hl := HL.out _ _ hm)
      | (go_at_call 11; refine (HK.out _).mono ?_; rintro e w2 ⟨rfl, hb2⟩; (with_reducible have hbP2 : Below w1.heap.size w1 w2 := hb2); have hA' := upB hA hb2; have hm' := CMap.below hm hb2; clear hA hm hl hla; have hA := hA'; have hm := hm'; have hl := HL.out _ _ hm; have hla := HL.out _ _ (CMap.alloc hm (.cells #[.int .u8 0, .bool false, .nilFunc] 29)))
      | (go_at_call 11; refine (HK.out _).mono ?_; rintro e w2 ⟨rfl, hb2⟩; (with_reducible have hbP2 : Below (w1.alloc (.cells #[.int .u8 0, .bool false, .nilFunc] 29)).heap.size (w1.alloc (.cells #[.int .u8 0, .bool false, .nilFunc] 29)) w2 := hb2); have hX2 := keptO (alloc_new w1 (.cells #[.int .u8 0, .bool false, .nilFunc] 29)) hb2; obtain ⟨x0, x1, x2, f0, f1, f2⟩ := cells3 hX2; have hXX : w.heap.size ≤ w1.heap.size := hA.size; have hA' := upAB (.cells #[.int .u8 0, .bool false, .nilFunc] 29) hA hb2; have hm' := CMap.below (CMap.alloc hm (.cells #[.int .u8 0, .bool false, .nilFunc] 29)) hb2; clear hA hm hl hla; have hA := hA'; have hm := hm'; have hl := HL.out _ _ hm)
      | fail)
    all_goals (
      go_wp2_with fail
      go_meet
      first
        | exact ⟨rfl, ((hA.setCell hXX _).setCell hXX _).setCell hXX _⟩
        | exact ⟨rfl, hA.alloc hA.size _⟩)
  case rest =>
    obtain ⟨rfl, hAx⟩ := hcut
    clear HL HC HK
    go_wp2_with fail
    go_ret
    exact ⟨rfl, hAx⟩
/-- where there is no such place -/
def atI (l : List Int) (i : Int) : Int := if 0 ≤ i ∧ i < l.length then atC l i.toNat else 0
theorem At_any (l : List Int) (i : Nat) (A : Option Addr) (n c : Nat) (w : World) (hn : l.length = n) (hi : i < n) (hn1 : n ≤ 1000000) (hC : C32 l) (hr : Row w w.heap.size A (cl .i32 l)) : Calls Tryz.prog 5 #[.slice A n c, .int .i64 (i : Int)] w (Tells (.int .u8 (atC l i)) w) := by
  unfold atC
  by_cases hk : kd l[i]! < 8
  · have := At_yes l i A n c w hn hi hn1 hC hk hr
    simpa only [hk, true_and] using this
  · have := At_no l i A n c w hn hi hn1 hC hk hr
    simpa only [hk, false_and, if_false] using this
set_option maxRecDepth 100000 in
set_option maxHeartbeats 1000000 in
theorem At_int (l : List Int) (i : Int) (A : Option Addr) (n c : Nat) (w : World) (hn : l.length = n) (hn1 : n ≤ 1000000) (hC : C32 l) (hr : Row w w.heap.size A (cl .i32 l)) : Calls Tryz.prog 5 #[.slice A n c, .int .i64 i] w (Tells (.int .u8 (atI l i)) w) := by
  unfold atI
  rw [hn]
  by_cases h0 : i < 0
  · rw [if_neg (by omega)]
    clear hr hC hn
    go_enter Tryz.func5, Tryz.ntmps5
    go_wp2_with fail
    go_ret
    exact ⟨rfl, Below.refl _ _⟩
  · by_cases h1 : i < n
    · rw [if_pos ⟨by omega, h1⟩]
      have := At_any l i.toNat A n c w hn (by omega) hn1 hC hr
      rwa [show ((i.toNat : Nat) : Int) = i from by omega] at this
    · rw [if_neg (by omega)]
      have h2 : (n : Int) ≤ i := by omega
      clear hr hC hn
      go_enter Tryz.func5, Tryz.ntmps5
      go_wp2_with fail
      go_ret
      exact ⟨rfl, Below.refl _ _⟩
end Go.Proofs.YtmeihnhghdmjiaaGreatDoor.Ctx
