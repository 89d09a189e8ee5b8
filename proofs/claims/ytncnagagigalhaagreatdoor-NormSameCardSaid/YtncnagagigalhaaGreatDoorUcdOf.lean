/-
  The contracts of ucd.Of and of what it calls.
-/
import Derived.Test.YtncnagagigalhaaGreatDoorUcdProp
import Derived.Test.YtncnagagigalhaaGreatDoorUcdFind
namespace Go.Proofs.YtncnagagigalhaaGreatDoor
open Go.RowKit Ucd

set_option maxRecDepth 100000 in
set_option maxHeartbeats 400000 in
theorem Of1_any (i : Nat) (B : Nat) (r : Int) (w : World) (hi : i < 166) (hB : Boxed w B 21 (.int .i32 r)) :
    Calls Tryz.prog 32 #[.int .i64 i, .pointer (some ⟨B, 0, none⟩)] w fun e w' => e = .returned (.bool (decide (r ≤ to i))) ∧ Below w.heap.size w w' := by
  have hc := hB.cell
  have hlt := hB.lt
  have htb := fr_bd hi
  go_enter Tryz.func32, Tryz.ntmps32
  go_wp2_with fail
  go_region_held3 (fun w' => w'.cell? ⟨B, 0, none⟩ = some (.int .i32 r)) (first | assumption | exact hc | exact hc1) (first
    | (go_at_call 34; refine (row_any i _ hi).mono ?_; rintro e w' ⟨rfl, rfl⟩)
    | (go_at_call 33; refine (last_at i _ hi).mono ?_; rintro e w1 ⟨rfl, hb⟩; have hc1 : w1.cell? ⟨B, 0, none⟩ = some (.int .i32 r) := (hb.cell (p := ⟨B, 0, none⟩) hlt).trans hc))
  go_wp2
  go_ret
  exact ⟨rfl, ⟨hb.os, hb.tape, hb.output, hb.size, hb.block⟩⟩

theorem box_go {W W' : World} {B : Nat} {t : TypeId} {v : Value} (h : Boxed W B t v) (hb : Below W.heap.size W W') : Boxed W' B t v := (hb.block B h.lt).trans h

theorem Of1_at (h : Int) (i : Nat) (e : h = (i : Int)) (B : Nat) (r : Int) (w : World) (hi : i < 166) (b : Bool) (hbo : decide (r ≤ to i) = b) (hB : Boxed w B 21 (.int .i32 r)) :
    Calls Tryz.prog 32 #[.int .i64 h, .pointer (some ⟨B, 0, none⟩)] w fun e w' => e = .returned (.bool b) ∧ Below w.heap.size w w' := by
  subst e hbo
  exact Of1_any i B r w hi hB

/-- how far the search is: rows below i end below r, row j does not -/
def SR (r : Int) (B : Nat) (w : World) (vi vj : Value) (wr : World) : Prop :=
  ∃ i j : Nat, vi = .int .i64 i ∧ vj = .int .i64 j ∧ i ≤ j ∧ j ≤ 166 ∧ (i = 0 ∨ to (i - 1) < r) ∧ (j = 166 ∨ r ≤ to j) ∧ Boxed wr B 21 (.int .i32 r) ∧ Below w.heap.size w wr

set_option maxRecDepth 100000 in
set_option maxHeartbeats 400000 in
theorem Search_any (B : Nat) (r : Int) (w : World) (hB : Boxed w B 21 (.int .i32 r)) :
    Calls Tryz.prog 31 #[.int .i64 166, .func (.func 32) #[] #[.pointer (some ⟨B, 0, none⟩)]] w fun e w' => e = .returned (.int .i64 (idx r)) ∧ Below w.heap.size w w' := by
  go_enter Tryz.func31, Tryz.ntmps31
  go_wp2
  go_loopw [5, 6] (fun i j wr => SR r B w i j wr) (fun i j _ => (intOf j).toNat - (intOf i).toNat)
  case atStart => exact ⟨0, 166, rfl, rfl, by omega, by omega, .inl rfl, .inl rfl, hB, Below.refl _ _⟩
  case round =>
    obtain ⟨i, j, rfl, rfl, hij, hj, h1, h2, hb, hbel⟩ := hrel
    by_cases hlt : i < j
    · obtain ⟨m, hm⟩ : ∃ m, m = (i + j) / 2 := ⟨_, rfl⟩
      have hmi : i ≤ m := by omega
      have hmj : m < j := by omega
      have hm6 : m < 166 := by omega
      have hcast : ((i : Int) + (j : Int)) / 2 = (m : Int) := by omega
      have HC := Lib.hid hcast
      have H1 := Lib.hid h1
      have H2 := Lib.hid h2
      clear hm hcast h1 h2
      by_cases hr : r ≤ to m
      · go_wp2_with (go_at_call 32; refine (Of1_at _ m HC.out B r _ hm6 true (decide_eq_true hr) hb).mono ?_; rintro e w' ⟨rfl, hb1⟩)
        go_roundw
        case rel => exact ⟨i, m, rfl, congrArg _ HC.out, hmi, by omega, H1.out, .inr hr, box_go hb hb1, hbel.trans (hb1.mono hbel.size)⟩
        case measure => simp [intOf]; have := HC.out; omega
      · go_wp2_with (go_at_call 32; refine (Of1_at _ m HC.out B r _ hm6 false (decide_eq_false hr) hb).mono ?_; rintro e w' ⟨rfl, hb1⟩)
        go_roundw
        case rel => exact ⟨m + 1, j, by rw [HC.out]; go_num, rfl, by omega, hj, .inr (by rw [Nat.add_sub_cancel]; omega), H2.out, box_go hb hb1, hbel.trans (hb1.mono hbel.size)⟩
        case measure => simp [intOf]; have := HC.out; omega
    · have : i = j := by omega
      subst this
      have HI : Hid (idx r = i) := Lib.hid (idx_is hj h1 h2)
      clear h1 h2
      go_wp2
      go_ret
      exact ⟨ret_int (by rw [HI.out]), hbel⟩

set_option maxRecDepth 100000 in
set_option maxHeartbeats 400000 in
theorem unassigned_any (w : World) : Calls Tryz.prog 36 #[] w fun e w' => e = .returned (pv un) ∧ Below w.heap.size w w' := by
  go_enter Tryz.func36, Tryz.ntmps36
  go_wp2
  refine bodyPost_ret (v := pv un) ?_ rfl ⟨rfl, ?_⟩
  · simp [results, Tryz.results36, go_sem, g, un]
  · exact (Below.refl _ _).alloc (Nat.le_refl _) _
end Go.Proofs.YtncnagagigalhaaGreatDoor
