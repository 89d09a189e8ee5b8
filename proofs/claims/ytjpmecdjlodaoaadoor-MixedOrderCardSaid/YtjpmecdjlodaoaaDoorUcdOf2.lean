import Derived.Test.YtjpmecdjlodaoaaDoorUcdProp
import Derived.Test.YtjpmecdjlodaoaaDoorUcdFind
import Derived.Deep.QuietTactic
import Derived.BigQuiet
/-
  The contracts of ucd.Of and of what it calls.
-/
namespace Go.Proofs.YtjpmecdjlodaoaaDoor
open Go.RowKit Ucd

set_option maxRecDepth 100000 in
set_option maxHeartbeats 400000 in
theorem Of1_any (i : Nat) (B : Nat) (r : Int) (w : World) (hi : i < 166) (hB : Boxed w B 21 (.int .i32 r)) :
    Calls Tryd.prog 40 #[.int .i64 i, .pointer (some ⟨B, 0, none⟩)] w fun e w' => e = .returned (.bool (decide (r ≤ to i))) ∧ Below w.heap.size w w' := by
  have hc := hB.cell
  have hlt := hB.lt
  have htb := fr_bd hi
  go_enter Tryd.func40, Tryd.ntmps40
  go_wp2_with fail
  go_region_held3 (fun w' => w'.cell? ⟨B, 0, none⟩ = some (.int .i32 r)) (first | assumption | exact hc | exact hc1) (first
    | (go_at_call 31; refine (row_any i _ hi).mono ?_; rintro e w' ⟨rfl, rfl⟩)
    | (go_at_call 33; refine (last_at i _ hi).mono ?_; rintro e w1 ⟨rfl, hb⟩; have hc1 : w1.cell? ⟨B, 0, none⟩ = some (.int .i32 r) := (hb.cell (p := ⟨B, 0, none⟩) hlt).trans hc))
  go_wp2
  go_ret
  exact ⟨rfl, ⟨hb.os, hb.tape, hb.output, hb.size, hb.block⟩⟩

theorem box_go {W W' : World} {B : Nat} {t : TypeId} {v : Value} (h : Boxed W B t v) (hb : Below W.heap.size W W') : Boxed W' B t v := (hb.block B h.lt).trans h

theorem Of1_at (h : Int) (i : Nat) (e : h = (i : Int)) (B : Nat) (r : Int) (w : World) (hi : i < 166) (b : Bool) (hbo : decide (r ≤ to i) = b) (hB : Boxed w B 21 (.int .i32 r)) :
    Calls Tryd.prog 40 #[.int .i64 h, .pointer (some ⟨B, 0, none⟩)] w fun e w' => e = .returned (.bool b) ∧ Below w.heap.size w w' := by
  subst e hbo
  exact Of1_any i B r w hi hB

/-- how far the search is: rows below i end below r, row j does not -/
def SR (r : Int) (B : Nat) (w : World) (vi vj : Value) (wr : World) : Prop :=
  ∃ i j : Nat, vi = .int .i64 i ∧ vj = .int .i64 j ∧ i ≤ j ∧ j ≤ 166 ∧ (i = 0 ∨ to (i - 1) < r) ∧ (j = 166 ∨ r ≤ to j) ∧ Boxed wr B 21 (.int .i32 r) ∧ Below w.heap.size w wr

set_option maxRecDepth 100000 in
set_option maxHeartbeats 400000 in
theorem Search_any (B : Nat) (r : Int) (w : World) (hB : Boxed w B 21 (.int .i32 r)) :
    Calls Tryd.prog 39 #[.int .i64 166, .func (.func 40) #[] #[.pointer (some ⟨B, 0, none⟩)]] w fun e w' => e = .returned (.int .i64 (idx r)) ∧ Below w.heap.size w w' := by
  go_enter Tryd.func39, Tryd.ntmps39
  go_wp2
  go_loopw [5, 6] (fun i j wr => SR r B w i j wr) (fun i j _ => (intOf j).toNat - (intOf i).toNat)
  case atStart => exact ⟨0, 166, rfl, rfl, by omega, by omega, .inl rfl, .inl rfl, hB, Below.refl _ _⟩
  case round =>
    obtain ⟨i, j, rfl, rfl, hij, hj, h1, h2, hb, hbel⟩ := hrel
    by_cases hlt : i < j
    · obtain ⟨m, hm⟩ : ∃ m, m = (i + j) / 2 := ⟨_, rfl⟩
      have hmi : i ≤ m := by omega
      have hmj : m < j := by omega
      have hm6 : m < 166 := by omega
      have hcast : ((i : Int) + (j : Int)) / 2 = (m : Int) := by omega
      have HC := Lib.hid hcast
      have H1 := Lib.hid h1
      have H2 := Lib.hid h2
      clear hm hcast h1 h2
      by_cases hr : r ≤ to m
      · go_wp2_with (go_at_call 40; refine (Of1_at _ m HC.out B r _ hm6 true (decide_eq_true hr) hb).mono ?_; rintro e w' ⟨rfl, hb1⟩)
        go_roundw
        case rel => exact ⟨i, m, rfl, congrArg _ HC.out, hmi, by omega, H1.out, .inr hr, box_go hb hb1, hbel.trans (hb1.mono hbel.size)⟩
        case measure => simp [intOf]; have := HC.out; omega
      · go_wp2_with (go_at_call 40; refine (Of1_at _ m HC.out B r _ hm6 false (decide_eq_false hr) hb).mono ?_; rintro e w' ⟨rfl, hb1⟩)
        go_roundw
        case rel => exact ⟨m + 1, j, by rw [HC.out]; go_num, rfl, by omega, hj, .inr (by rw [Nat.add_sub_cancel]; omega), H2.out, box_go hb hb1, hbel.trans (hb1.mono hbel.size)⟩
        case measure => simp [intOf]; have := HC.out; omega
    · have : i = j := by omega
      subst this
      have HI : Hid (idx r = i) := Lib.hid (idx_is hj h1 h2)
      clear h1 h2
      go_wp2
      go_ret
      exact ⟨ret_int (by rw [HI.out]), hbel⟩

set_option maxRecDepth 100000 in
set_option maxHeartbeats 400000 in
theorem unassigned_any (w : World) : Calls Tryd.prog 41 #[] w fun e w' => e = .returned (pv un) ∧ Below w.heap.size w w' := by
  go_enter Tryd.func41, Tryd.ntmps41
  go_wp2
  refine bodyPost_ret (v := pv un) ?_ rfl ⟨rfl, ?_⟩
  · simp [results, Tryd.results41, go_sem, g, un]
  · exact (Below.refl _ _).alloc (Nat.le_refl _) _
end Go.Proofs.YtjpmecdjlodaoaaDoor

/-
  The contract of ucd.Of.
-/
namespace Go.Proofs.YtjpmecdjlodaoaaDoor
open Go.RowKit Ucd

/-- a block of seven cells for properties -/
def Blk7 (w : World) (B : Nat) : Prop := ∃ cs, cs.size = 7 ∧ w.heap[B]? = some (.cells cs 35 (0, 0))
theorem Blk7.lt {w : World} {B : Nat} (h : Blk7 w B) : B < w.heap.size := by
  obtain ⟨cs, _, h3⟩ := h
  exact (Array.getElem?_eq_some_iff.1 h3).1
theorem Blk7.go {a b : World} {B : Nat} (h : Blk7 a B) (hb : Below a.heap.size a b) : Blk7 b B := by
  have hl := h.lt
  obtain ⟨cs, h2, h3⟩ := h
  exact ⟨cs, h2, (hb.block _ hl).trans h3⟩
theorem Blk7.cell {a : World} {B : Nat} (h : Blk7 a B) (k : Nat) (hk : k < 7) : a.cell? ⟨B, k, none⟩ = some (cc a B k) := by
  obtain ⟨old, h2, h3⟩ := h
  unfold cc
  simp only [World.cell?, h3]
  have : k < old.size := by omega
  simp [this]
theorem Blk7.frozen {a : World} {B : Nat} (h : Blk7 a B) (k : Nat) : a.frozen? ⟨B, k, none⟩ = false := by
  obtain ⟨old, h2, h3⟩ := h
  simp [World.frozen?, h3]
theorem Blk7.new (w : World) : Blk7 (w.alloc (.cells #[.int .u8 0, .int .u8 0, .int .u8 0, .int .u8 0, .int .u8 0, .int .u8 0, .int .u8 0] 35)) w.heap.size := ⟨_, rfl, World.alloc_heap_new w _⟩

theorem below_of_drew {w wA : World} (h : Below w.drew.heap.size w.drew wA) : Below w.heap.size w wA := ⟨h.os, h.tape, h.output, h.size, h.block⟩
theorem below_set7 {w w2 : World} {B : Nat} (h : Below w.heap.size w w2) (hB : w.heap.size ≤ B) (v0 v1 v2 v3 v4 v5 v6 : Value) :
    Below w.heap.size w (((((((w2.setCell ⟨B, 0, none⟩ v0).setCell ⟨B, 1, none⟩ v1).setCell ⟨B, 2, none⟩ v2).setCell ⟨B, 3, none⟩ v3).setCell ⟨B, 4, none⟩ v4).setCell ⟨B, 5, none⟩ v5).setCell ⟨B, 6, none⟩ v6) :=
  ((((((h.setCell (p := ⟨B, 0, none⟩) hB _).setCell (p := ⟨B, 1, none⟩) hB _).setCell (p := ⟨B, 2, none⟩) hB _).setCell (p := ⟨B, 3, none⟩) hB _).setCell (p := ⟨B, 4, none⟩) hB _).setCell (p := ⟨B, 5, none⟩) hB _).setCell (p := ⟨B, 6, none⟩) hB _

set_option maxRecDepth 100000 in
set_option maxHeartbeats 1000000 in
theorem Of_any (r : Int) (w : World) : Calls Tryd.prog 28 #[.int .i32 r] w fun e w' => e = .returned (pv (of r)) ∧ Below w.heap.size w w' := by
  have hle := idx_le r
  have bR := (Boxed.new w 21 (.int .i32 r)).alloc (.cells #[.int .u8 0, .int .u8 0, .int .u8 0, .int .u8 0, .int .u8 0, .int .u8 0, .int .u8 0] 35)
  have bP := Blk7.new (w.alloc (.cells #[.int .i32 r] 21))
  rw [World.size_alloc] at bP
  have hB0 : Below w.heap.size w ((w.alloc (.cells #[.int .i32 r] 21)).alloc (.cells #[.int .u8 0, .int .u8 0, .int .u8 0, .int .u8 0, .int .u8 0, .int .u8 0, .int .u8 0] 35)) := ((Below.refl _ w).alloc (Nat.le_refl _) _).alloc (by simp) _
  go_enter Tryd.func28, Tryd.ntmps28
  go_wp2_with (go_at_call 39; refine (Search_any w.heap.size r _ bR).mono ?_; rintro e w1 ⟨rfl, hb1⟩)
  have bR1 := box_go bR hb1
  have bP1 := bP.go hb1
  have hB1 := hB0.trans (hb1.mono hB0.size)
  clear bR bP hB0 hb1
  have hcR := bR1.cell
  have hlR := bR1.lt
  rcases Nat.lt_or_ge (idx r) 166 with hi | hi
  · have hne : ((idx r : Int) == 166) = false := by simp; omega
    have hne' : ¬ (idx r : Int) = 166 := by omega
    have hfb := fr_bd hi
    obtain ⟨m, hm⟩ : ∃ m, m = idx r := ⟨_, rfl⟩
    rw [← hm] at hi hne hne' hfb
    have HM := Lib.hid hm
    rw [← hm]
    clear hm hle
    by_cases hf : fr m ≤ r
    · have HO : Hid (of r = pr m) := Lib.hid (by unfold of inTab; rw [← HM.out, decide_eq_true hi, decide_eq_true hf]; rfl)
      go_region_held3 (fun w' => w'.cell? ⟨w.heap.size, 0, none⟩ = some (.int .i32 r)) (first | assumption | exact hcR | exact hc2) (first
        | (go_at_call 31; refine (row_any m _ hi).mono ?_; rintro e w' ⟨rfl, rfl⟩)
        | (go_at_call 32; refine (first_at m _ hi).mono ?_; rintro e w2 ⟨rfl, hb2⟩; have hc2 : w2.cell? ⟨w.heap.size, 0, none⟩ = some (.int .i32 r) := (hb2.cell (p := ⟨w.heap.size, 0, none⟩) hlR).trans hcR))
      have bP2 := bP1.go (below_of_drew hb2)
      have hB2 := hB1.trans ((below_of_drew hb2).mono hB1.size)
      have hd : decide (r < fr m) = false := decide_eq_false (by omega)
      clear bP1 hB1 bR1 hb2 hc2
      go_wp2_with (first
        | (go_at_call 31; refine (row_any m _ hi).mono ?_; rintro e w' ⟨rfl, rfl⟩)
        | (go_at_call 34; refine (prop_at m _ hi).mono ?_; rintro e w3 ⟨rfl, hb3⟩; have bP3 := bP2.go hb3; have p0 := bP3.cell 0 (by omega); have p1 := bP3.cell 1 (by omega); have p2 := bP3.cell 2 (by omega); have p3 := bP3.cell 3 (by omega); have p4 := bP3.cell 4 (by omega); have p5 := bP3.cell 5 (by omega); have p6 := bP3.cell 6 (by omega); have f0 := bP3.frozen 0; have f1 := bP3.frozen 1; have f2 := bP3.frozen 2; have f3 := bP3.frozen 3; have f4 := bP3.frozen 4; have f5 := bP3.frozen 5; have f6 := bP3.frozen 6))
      refine bodyPost_ret (v := pv (pr m)) ?_ rfl ⟨by rw [HO.out], ?_⟩
      · simp [results, Tryd.results28, go_sem, p0, p1, p2, p3, p4, p5, p6]
      · exact below_set7 (hB2.trans (hb3.mono hB2.size)) (Nat.le_succ _) _ _ _ _ _ _ _
    · have HO : Hid (of r = un) := Lib.hid (by unfold of inTab; rw [← HM.out, decide_eq_true hi, decide_eq_false hf]; rfl)
      go_region_held3 (fun w' => w'.cell? ⟨w.heap.size, 0, none⟩ = some (.int .i32 r)) (first | assumption | exact hcR | exact hc2) (first
        | (go_at_call 31; refine (row_any m _ hi).mono ?_; rintro e w' ⟨rfl, rfl⟩)
        | (go_at_call 32; refine (first_at m _ hi).mono ?_; rintro e w2 ⟨rfl, hb2⟩; have hc2 : w2.cell? ⟨w.heap.size, 0, none⟩ = some (.int .i32 r) := (hb2.cell (p := ⟨w.heap.size, 0, none⟩) hlR).trans hcR))
      have bP2 := bP1.go (below_of_drew hb2)
      have hB2 := hB1.trans ((below_of_drew hb2).mono hB1.size)
      have hd : decide (r < fr m) = true := decide_eq_true (by omega)
      clear bP1 hB1 bR1 hb2 hc2
      go_wp2_with (go_at_call 41; refine (unassigned_any _).mono ?_; rintro e w3 ⟨rfl, hb3⟩; have bP3 := bP2.go hb3; have p0 := bP3.cell 0 (by omega); have p1 := bP3.cell 1 (by omega); have p2 := bP3.cell 2 (by omega); have p3 := bP3.cell 3 (by omega); have p4 := bP3.cell 4 (by omega); have p5 := bP3.cell 5 (by omega); have p6 := bP3.cell 6 (by omega); have f0 := bP3.frozen 0; have f1 := bP3.frozen 1; have f2 := bP3.frozen 2; have f3 := bP3.frozen 3; have f4 := bP3.frozen 4; have f5 := bP3.frozen 5; have f6 := bP3.frozen 6)
      refine bodyPost_ret (v := pv (un)) ?_ rfl ⟨by rw [HO.out], ?_⟩
      · simp [results, Tryd.results28, go_sem, p0, p1, p2, p3, p4, p5, p6]
      · exact below_set7 (hB2.trans (hb3.mono hB2.size)) (Nat.le_succ _) _ _ _ _ _ _ _
  · have h6 : idx r = 166 := by omega
    have HO : Hid (of r = un) := Lib.hid (by unfold of inTab; rw [h6]; rfl)
    rw [h6]
    clear h6 hi hle
    have hd : (((166 : Nat) : Int) == 166) = true := rfl
    go_quiet (fail)
    have bPd : Blk7 (w1.drewN nq) (w.heap.size + 1) := bP1
    have hBd : Below w.heap.size w (w1.drewN nq) := ⟨hB1.os, hB1.tape, hB1.output, hB1.size, hB1.block⟩
    go_wp2_with (go_at_call 41; refine (unassigned_any _).mono ?_; rintro e w3 ⟨rfl, hb3⟩; have bP3 := bPd.go hb3; have p0 := bP3.cell 0 (by omega); have p1 := bP3.cell 1 (by omega); have p2 := bP3.cell 2 (by omega); have p3 := bP3.cell 3 (by omega); have p4 := bP3.cell 4 (by omega); have p5 := bP3.cell 5 (by omega); have p6 := bP3.cell 6 (by omega); have f0 := bP3.frozen 0; have f1 := bP3.frozen 1; have f2 := bP3.frozen 2; have f3 := bP3.frozen 3; have f4 := bP3.frozen 4; have f5 := bP3.frozen 5; have f6 := bP3.frozen 6)
    refine bodyPost_ret (v := pv un) ?_ rfl ⟨by rw [HO.out], ?_⟩
    · simp [results, Tryd.results28, go_sem, p0, p1, p2, p3, p4, p5, p6]
    · exact below_set7 (hBd.trans (hb3.mono hBd.size)) (Nat.le_succ _) _ _ _ _ _ _ _

end Go.Proofs.YtjpmecdjlodaoaaDoor
