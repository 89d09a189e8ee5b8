/-
  The table that is told is nobody else's: written over, it is told as it was: for every row, every code point.
-/
import Derived.Test.YtioagoehmdppiaaDoorUcdOpen
import Derived.IntWalk
import Derived.Test.YtioagoehmdppiaaDoorUcdLaid
import Derived.Test.YtioagoehmdppiaaDoorTie
import Derived.Test.YtioagoehmdppiaaDoorCards
import Derived.ProofKit
import Derived.Lay
import Derived.Stop.Joined
import Derived.SevenTiedAt
namespace Go.Proofs.YtioagoehmdppiaaDoor.ucdApart
open Go.ChangeShapes Go.WideShapes Go.ChangeAt Go.RowKit Ucd

/-- a row in a block of its own -/
theorem nine (w : World) (i : Nat) : ∀ W, w.alloc (.cells #[.int .i32 (fr i), .int .i32 (to i), .int .u8 (g (pr i) 0), .int .u8 (g (pr i) 1), .int .u8 (g (pr i) 2), .int .u8 (g (pr i) 3), .int .u8 (g (pr i) 4), .int .u8 (g (pr i) 5), .int .u8 (g (pr i) 6)] 27) = W →
    W.cell? ⟨w.heap.size, 0, none⟩ = some (.int .i32 (fr i)) ∧ W.cell? ⟨w.heap.size, 1, none⟩ = some (.int .i32 (to i)) ∧ W.cell? ⟨w.heap.size, 2, none⟩ = some (.int .u8 (g (pr i) 0)) ∧ W.cell? ⟨w.heap.size, 3, none⟩ = some (.int .u8 (g (pr i) 1)) ∧ W.cell? ⟨w.heap.size, 4, none⟩ = some (.int .u8 (g (pr i) 2)) ∧ W.cell? ⟨w.heap.size, 5, none⟩ = some (.int .u8 (g (pr i) 3)) ∧ W.cell? ⟨w.heap.size, 6, none⟩ = some (.int .u8 (g (pr i) 4)) ∧ W.cell? ⟨w.heap.size, 7, none⟩ = some (.int .u8 (g (pr i) 5)) ∧ W.cell? ⟨w.heap.size, 8, none⟩ = some (.int .u8 (g (pr i) 6)) ∧ Below w.heap.size w W ∧ w.heap.size < W.heap.size := by
  rintro W rfl
  exact ⟨by simp, by simp, by simp, by simp, by simp, by simp, by simp, by simp, by simp, (Below.refl _ _).alloc (Nat.le_refl _) _, by simp⟩
/-- a code point's properties in a block of their own -/
theorem seven (w : World) (p : List Int) : ∀ W, w.alloc (.cells #[.int .u8 (g p 0), .int .u8 (g p 1), .int .u8 (g p 2), .int .u8 (g p 3), .int .u8 (g p 4), .int .u8 (g p 5), .int .u8 (g p 6)] 25) = W →
    (∀ j, j < 7 → W.cell? ⟨w.heap.size, j, none⟩ = some (.int .u8 (g p j))) ∧ Below w.heap.size w W ∧ w.heap.size < W.heap.size := by
  rintro W rfl
  refine ⟨fun j hj => ?_, (Below.refl _ _).alloc (Nat.le_refl _) _, by simp⟩
  have hj' : j = 0 ∨ j = 1 ∨ j = 2 ∨ j = 3 ∨ j = 4 ∨ j = 5 ∨ j = 6 := by omega
  rcases hj' with rfl | rfl | rfl | rfl | rfl | rfl | rfl <;> simp
/-- the block of the table that is written over: whatever it holds -/
def Blk (w : World) (b : Nat) : Prop := ∃ cs, 1494 ≤ cs.size ∧ w.heap[b]? = some (.cells cs 27 (0, 0))
theorem Blk.cell {a : World} {B : Nat} (h : Blk a B) (k : Nat) (hk : k < 1494) : a.cell? ⟨B, k, none⟩ = some (cc a B k) := by
  obtain ⟨old, h2, h3⟩ := h
  unfold cc
  simp only [World.cell?, h3]
  have : k < old.size := by omega
  simp [this]
theorem Blk.frozen {a : World} {B : Nat} (h : Blk a B) (k : Nat) : a.frozen? ⟨B, k, none⟩ = false := by
  obtain ⟨old, h2, h3⟩ := h
  simp [World.frozen?, h3]
/-- nothing but one block has changed -/
def But (b : Nat) (w w' : World) : Prop := w'.heap.size = w.heap.size ∧ (∀ j, j ≠ b → w'.heap[j]? = w.heap[j]?) ∧ Blk w' b
theorem But.set {b : Nat} {w w' : World} (h : But b w w') (k : Nat) (v : Value) : But b w (w'.setCell ⟨b, k, none⟩ v) := by
  obtain ⟨h1, h2, cs, h3, h4⟩ := h
  rw [setCell_eq_setRow w' b k cs _ _ v h4]
  exact ⟨by rw [setRow_size]; exact h1, fun j hj => (setRow_other w' b j _ hj).trans (h2 j hj), _, by simpa using h3, setRow_heap w' b cs _ _ _ h4⟩
theorem But.cell {b : Nat} {w w' : World} (h : But b w w') {p : Addr} (hp : p.block ≠ b) : w'.cell? p = w.cell? p := World.cell?_of_block (w := w) (h.2.1 p.block hp)
def ARel (b : Nat) (w W0 : World) (i : Value) (wr : World) : Prop :=
  ∃ k : Nat, k ≤ 166 ∧ i = .int .i64 k ∧ But b W0 wr ∧ Below w.heap.size w wr
theorem Table_blk (w : World) : Calls Tryd.prog 8 #[] w fun e w' => ∃ gt cap, e = .returned (.slice (some ⟨gt, 0, none⟩) 166 cap) ∧ w.heap.size ≤ gt ∧ TabAt w' gt ∧ Blk w' gt ∧ Below w.heap.size w w' := by
  refine (Table_any w).mono ?_
  rintro e w' ⟨v, rfl, hown, hb⟩
  have hown' := hown
  obtain ⟨h1, h2⟩ := hown
  rcases h2 with ⟨_, h2⟩ | ⟨gt, cap, cur, rfl, hbase, hg, hcap, h3, h4, ht⟩
  · omega
  · exact ⟨gt, cap, rfl, hbase, ⟨(Array.getElem?_eq_some_iff.1 hg).1, fun i k hi hk => by rw [hown'.cellAt (i * 9 + k) (by omega), TC_get 166 i k hi hk]⟩, ⟨cur, by omega, hg⟩, hb⟩

theorem Of_eq {r : Int} {p : List Int} (h : of r = p) (w : World) : Calls Tryd.prog 10 #[.int .i32 r] w fun e w' => e = .returned (pv p) ∧ Below w.heap.size w w' := by
  subst h
  exact Of_any r w

set_option maxRecDepth 100000 in
set_option maxHeartbeats 1000000 in
theorem walk (n r : Int) (w : World) (hn : 0 ≤ n) (hn2 : n ≤ 255) (_hr : -2147483648 ≤ r) (_hr2 : r ≤ 2147483647) (hB : BrIs w) : Calls Tryd.prog 7 #[.int .u8 n, .int .i32 r] w fun e w' => e = .returned (.bool true) ∧ Below w.heap.size w w' := by
  have HB := Lib.hid hB
  clear hB
  obtain ⟨i, hi⟩ : ∃ i : Nat, (i : Int) = n % 166 := ⟨(n % 166).toNat, by omega⟩
  have hi6 : i < 166 := by omega
  have hfb := fr_bd hi6
  have hti : (n % 166).toNat = i := by omega
  have hni : n % 166 = (i : Int) := hi.symm
  clear hi
  go_enter Tryd.func7, Tryd.ntmps7
  go_wp2_with (first
    | (go_at_call 8; refine (Table_blk _).mono ?_; rintro e w1 ⟨gt, cap, rfl, hgt, hT, hK, hb1⟩)
    | (go_at_call 10; refine (Of_any r _).mono ?_; rintro e w2 ⟨rfl, hb2⟩; obtain ⟨t0, t1, t2, t3, t4, t5, t6, t7, t8⟩ := (hT.go hb2).cells i hi6; have hgl : gt < w2.heap.size := (hT.go hb2).1; have hgne : ¬ gt = w2.heap.size := by omega))
  obtain ⟨W1, hW1⟩ : ∃ W1, w2.alloc (.cells #[.int .u8 (g (of r) 0), .int .u8 (g (of r) 1), .int .u8 (g (of r) 2), .int .u8 (g (of r) 3), .int .u8 (g (of r) 4), .int .u8 (g (of r) 5), .int .u8 (g (of r) 6)] 25) = W1 := ⟨_, rfl⟩
  obtain ⟨hp7, hbW1, hsW1⟩ := seven w2 (of r) W1 hW1
  have hsz : W1.heap.size = w2.heap.size + 1 := by rw [← hW1]; simp
  rw [hW1]
  obtain ⟨W0, hW0⟩ : ∃ W0, W1.alloc (.cells #[.int .i32 (fr i), .int .i32 (to i), .int .u8 (g (pr i) 0), .int .u8 (g (pr i) 1), .int .u8 (g (pr i) 2), .int .u8 (g (pr i) 3), .int .u8 (g (pr i) 4), .int .u8 (g (pr i) 5), .int .u8 (g (pr i) 6)] 27) = W0 := ⟨_, rfl⟩
  obtain ⟨x0, x1, x2, x3, x4, x5, x6, x7, x8, hbW0, hsW0⟩ := nine W1 i W0 hW0
  rw [hW0]
  rw [hsz] at x0 x1 x2 x3 x4 x5 x6 x7 x8
  have hp7' : ∀ j, j < 7 → W0.cell? ⟨w2.heap.size, j, none⟩ = some (.int .u8 (g (of r) j)) := fun j hj => (hbW0.cell (p := ⟨w2.heap.size, j, none⟩) hsW1).trans (hp7 j hj)
  have hb20 := upB hb2 (upB hbW1 hbW0)
  have HR0 := Lib.hid ((HB.out.go hb1).go hb20)
  have hK0 : Blk W0 gt := by
    obtain ⟨cs, c1, c2⟩ := hK
    exact ⟨cs, c1, (hb20.block gt hT.1).trans c2⟩
  have hbel0 := upB hb1 hb20
  have hgP : gt ≠ w2.heap.size := by omega
  have hgX : gt ≠ w2.heap.size + 1 := by omega
  have hg0 : gt ≠ 0 := by have := HB.out.lt; omega
  obtain ⟨Pb, hPb⟩ : ∃ Pb, w2.heap.size = Pb := ⟨_, rfl⟩
  rw [hPb] at x0 x1 x2 x3 x4 x5 x6 x7 x8 hp7' hgP hgX ⊢
  obtain ⟨X, hX⟩ : ∃ X, Pb + 1 = X := ⟨_, rfl⟩
  rw [hX] at x0 x1 x2 x3 x4 x5 x6 x7 x8 hgX ⊢
  have HX := Lib.hid (And.intro x0 (And.intro x1 (And.intro x2 (And.intro x3 (And.intro x4 (And.intro x5 (And.intro x6 (And.intro x7 x8))))))))
  have HP := Lib.hid hp7'
  have HK := Lib.hid hK0
  have HTI := Lib.hid hti
  clear hPb hX hW1 hW0 hsz hp7 hp7' hbW1 hbW0 hsW1 hsW0 hT hK hb1 hb2 hb20 hK0 HB t0 t1 t2 t3 t4 t5 t6 t7 t8 hgl hgne x0 x1 x2 x3 x4 x5 x6 x7 x8 hti
  go_loopw [28] (fun v wr => ARel gt w W0 v wr) (fun v _ => 166 - (intOf v).toNat)
  case atStart => exact ⟨0, by omega, rfl, ⟨rfl, fun _ _ => rfl, HK.out⟩, hbel0⟩
  case round =>
    clear hbel0 HK
    obtain ⟨k, hk, rfl, hbut, hbel⟩ := hrel
    by_cases hlt : k < 166
    · have hbk := hbut.2.2
      have c0 := hbk.cell (k * 9 + 0) (by omega)
      have c1 := hbk.cell (k * 9 + 1) (by omega)
      have c2 := hbk.cell (k * 9 + 2) (by omega)
      have c3 := hbk.cell (k * 9 + 3) (by omega)
      have c4 := hbk.cell (k * 9 + 4) (by omega)
      have c5 := hbk.cell (k * 9 + 5) (by omega)
      have c6 := hbk.cell (k * 9 + 6) (by omega)
      have c7 := hbk.cell (k * 9 + 7) (by omega)
      have c8 := hbk.cell (k * 9 + 8) (by omega)
      have f0 := hbk.frozen (k * 9 + 0)
      have f1 := hbk.frozen (k * 9 + 1)
      have f2 := hbk.frozen (k * 9 + 2)
      have f3 := hbk.frozen (k * 9 + 3)
      have f4 := hbk.frozen (k * 9 + 4)
      have f5 := hbk.frozen (k * 9 + 5)
      have f6 := hbk.frozen (k * 9 + 6)
      have f7 := hbk.frozen (k * 9 + 7)
      have f8 := hbk.frozen (k * 9 + 8)
      rw [Nat.add_zero] at c0 f0
      clear hbk
      go_wp2
      go_roundw
      case rel => exact ⟨k + 1, by omega, by go_num, ((((((((hbut.set _ _).set _ _).set _ _).set _ _).set _ _).set _ _).set _ _).set _ _).set _ _, Below.setCell (Below.setCell (Below.setCell (Below.setCell (Below.setCell (Below.setCell (Below.setCell (Below.setCell (Below.setCell (hbel) (p := ⟨gt, _, none⟩) hgt _) (p := ⟨gt, _, none⟩) hgt _) (p := ⟨gt, _, none⟩) hgt _) (p := ⟨gt, _, none⟩) hgt _) (p := ⟨gt, _, none⟩) hgt _) (p := ⟨gt, _, none⟩) hgt _) (p := ⟨gt, _, none⟩) hgt _) (p := ⟨gt, _, none⟩) hgt _) (p := ⟨gt, _, none⟩) hgt _⟩
      case measure => simp [intOf]; omega
    · obtain rfl : k = 166 := by omega
      have hxw := HX.out
      obtain ⟨x0, x1, x2, x3, x4, x5, x6, x7, x8⟩ := hxw
      have hRr : BrIs wr := fun j hj => (hbut.cell (p := ⟨0, j, none⟩) (Ne.symm hg0)).trans (HR0.out j hj)
      have HRr := Lib.hid hRr
      clear hRr
      have y0 := (hbut.cell (p := ⟨X, 0, none⟩) (Ne.symm hgX)).trans x0
      have y1 := (hbut.cell (p := ⟨X, 1, none⟩) (Ne.symm hgX)).trans x1
      have y2 := (hbut.cell (p := ⟨X, 2, none⟩) (Ne.symm hgX)).trans x2
      have y3 := (hbut.cell (p := ⟨X, 3, none⟩) (Ne.symm hgX)).trans x3
      have y4 := (hbut.cell (p := ⟨X, 4, none⟩) (Ne.symm hgX)).trans x4
      have y5 := (hbut.cell (p := ⟨X, 5, none⟩) (Ne.symm hgX)).trans x5
      have y6 := (hbut.cell (p := ⟨X, 6, none⟩) (Ne.symm hgX)).trans x6
      have y7 := (hbut.cell (p := ⟨X, 7, none⟩) (Ne.symm hgX)).trans x7
      have y8 := (hbut.cell (p := ⟨X, 8, none⟩) (Ne.symm hgX)).trans x8
      have u0 := (hbut.cell (p := ⟨Pb, 0, none⟩) (Ne.symm hgP)).trans (HP.out 0 (by omega))
      have u1 := (hbut.cell (p := ⟨Pb, 1, none⟩) (Ne.symm hgP)).trans (HP.out 1 (by omega))
      have u2 := (hbut.cell (p := ⟨Pb, 2, none⟩) (Ne.symm hgP)).trans (HP.out 2 (by omega))
      have u3 := (hbut.cell (p := ⟨Pb, 3, none⟩) (Ne.symm hgP)).trans (HP.out 3 (by omega))
      have u4 := (hbut.cell (p := ⟨Pb, 4, none⟩) (Ne.symm hgP)).trans (HP.out 4 (by omega))
      have u5 := (hbut.cell (p := ⟨Pb, 5, none⟩) (Ne.symm hgP)).trans (HP.out 5 (by omega))
      have u6 := (hbut.cell (p := ⟨Pb, 6, none⟩) (Ne.symm hgP)).trans (HP.out 6 (by omega))
      have hXl : X < wr.heap.size := World.block_lt_of_cell? wr _ y0
      have hPl : Pb < wr.heap.size := World.block_lt_of_cell? wr _ u0
      clear x0 x1 x2 x3 x4 x5 x6 x7 x8 hbut HX HP HR0
      go_wp2_with (go_at_call 8; refine (Table_out _).mono ?_; rintro e w4 ⟨gm, cap2, rfl, hcap2, hgm, hT4, hb4⟩; have v0 := (hb4.cell (p := ⟨X, 0, none⟩) hXl).trans y0; have v1 := (hb4.cell (p := ⟨X, 1, none⟩) hXl).trans y1; have v2 := (hb4.cell (p := ⟨X, 2, none⟩) hXl).trans y2; have v3 := (hb4.cell (p := ⟨X, 3, none⟩) hXl).trans y3; have v4 := (hb4.cell (p := ⟨X, 4, none⟩) hXl).trans y4; have v5 := (hb4.cell (p := ⟨X, 5, none⟩) hXl).trans y5; have v6 := (hb4.cell (p := ⟨X, 6, none⟩) hXl).trans y6; have v7 := (hb4.cell (p := ⟨X, 7, none⟩) hXl).trans y7; have v8 := (hb4.cell (p := ⟨X, 8, none⟩) hXl).trans y8; have s0 := (hb4.cell (p := ⟨Pb, 0, none⟩) hPl).trans u0; have s1 := (hb4.cell (p := ⟨Pb, 1, none⟩) hPl).trans u1; have s2 := (hb4.cell (p := ⟨Pb, 2, none⟩) hPl).trans u2; have s3 := (hb4.cell (p := ⟨Pb, 3, none⟩) hPl).trans u3; have s4 := (hb4.cell (p := ⟨Pb, 4, none⟩) hPl).trans u4; have s5 := (hb4.cell (p := ⟨Pb, 5, none⟩) hPl).trans u5; have s6 := (hb4.cell (p := ⟨Pb, 6, none⟩) hPl).trans u6)
      obtain ⟨m0, m1, m2, m3, m4, m5, m6, m7, m8⟩ := hT4.cells i hi6
      have HR4 := Lib.hid (HRr.out.go hb4)
      have hbel4 := upB hbel hb4
      have hXl4 : X < w4.heap.size := Nat.lt_of_lt_of_le hXl hb4.size
      have hPl4 : Pb < w4.heap.size := Nat.lt_of_lt_of_le hPl hb4.size
      have hml4 : gm < w4.heap.size := hT4.1
      clear hT4 hb4 hbel HRr y0 y1 y2 y3 y4 y5 y6 y7 y8 u0 u1 u2 u3 u4 u5 u6
      have ii0 : (0 : Int) ≤ (i : Int) := by omega
      have ii1 : (i : Int) < 166 := by omega
      have HO := Lib.hid (of_row hi6 (Int.le_refl (fr i)) hfb.2.1).2
      go_region_held3 (fun w' => w'.cell? ⟨X, 0, none⟩ = some (.int .i32 (fr i)) ∧ w'.cell? ⟨X, 1, none⟩ = some (.int .i32 (to i)) ∧ w'.cell? ⟨X, 2, none⟩ = some (.int .u8 (g (pr i) 0)) ∧ w'.cell? ⟨X, 3, none⟩ = some (.int .u8 (g (pr i) 1)) ∧ w'.cell? ⟨X, 4, none⟩ = some (.int .u8 (g (pr i) 2)) ∧ w'.cell? ⟨X, 5, none⟩ = some (.int .u8 (g (pr i) 3)) ∧ w'.cell? ⟨X, 6, none⟩ = some (.int .u8 (g (pr i) 4)) ∧ w'.cell? ⟨X, 7, none⟩ = some (.int .u8 (g (pr i) 5)) ∧ w'.cell? ⟨X, 8, none⟩ = some (.int .u8 (g (pr i) 6)) ∧ w'.cell? ⟨gm, i * 9, none⟩ = some (.int .i32 (fr i)) ∧ w'.cell? ⟨gm, i * 9 + 1, none⟩ = some (.int .i32 (to i)) ∧ w'.cell? ⟨gm, i * 9 + 2, none⟩ = some (.int .u8 (g (pr i) 0)) ∧ w'.cell? ⟨gm, i * 9 + 3, none⟩ = some (.int .u8 (g (pr i) 1)) ∧ w'.cell? ⟨gm, i * 9 + 4, none⟩ = some (.int .u8 (g (pr i) 2)) ∧ w'.cell? ⟨gm, i * 9 + 5, none⟩ = some (.int .u8 (g (pr i) 3)) ∧ w'.cell? ⟨gm, i * 9 + 6, none⟩ = some (.int .u8 (g (pr i) 4)) ∧ w'.cell? ⟨gm, i * 9 + 7, none⟩ = some (.int .u8 (g (pr i) 5)) ∧ w'.cell? ⟨gm, i * 9 + 8, none⟩ = some (.int .u8 (g (pr i) 6)) ∧ w'.cell? ⟨Pb, 0, none⟩ = some (.int .u8 (g (of r) 0)) ∧ w'.cell? ⟨Pb, 1, none⟩ = some (.int .u8 (g (of r) 1)) ∧ w'.cell? ⟨Pb, 2, none⟩ = some (.int .u8 (g (of r) 2)) ∧ w'.cell? ⟨Pb, 3, none⟩ = some (.int .u8 (g (of r) 3)) ∧ w'.cell? ⟨Pb, 4, none⟩ = some (.int .u8 (g (of r) 4)) ∧ w'.cell? ⟨Pb, 5, none⟩ = some (.int .u8 (g (of r) 5)) ∧ w'.cell? ⟨Pb, 6, none⟩ = some (.int .u8 (g (of r) 6))) (first | exact ⟨v0, v1, v2, v3, v4, v5, v6, v7, v8, m0, m1, m2, m3, m4, m5, m6, m7, m8, s0, s1, s2, s3, s4, s5, s6⟩) (first
        | (go_at_call_of 10 (Value.int .i32 (fr i)); refine (Of_eq HO.out _).mono ?_; rintro e w5 ⟨rfl, h5⟩; replace v0 := (h5.cell (p := ⟨X, 0, none⟩) hXl4).trans v0; replace v1 := (h5.cell (p := ⟨X, 1, none⟩) hXl4).trans v1; replace v2 := (h5.cell (p := ⟨X, 2, none⟩) hXl4).trans v2; replace v3 := (h5.cell (p := ⟨X, 3, none⟩) hXl4).trans v3; replace v4 := (h5.cell (p := ⟨X, 4, none⟩) hXl4).trans v4; replace v5 := (h5.cell (p := ⟨X, 5, none⟩) hXl4).trans v5; replace v6 := (h5.cell (p := ⟨X, 6, none⟩) hXl4).trans v6; replace v7 := (h5.cell (p := ⟨X, 7, none⟩) hXl4).trans v7; replace v8 := (h5.cell (p := ⟨X, 8, none⟩) hXl4).trans v8; replace m0 := (h5.cell (p := ⟨gm, i * 9, none⟩) hml4).trans m0; replace m1 := (h5.cell (p := ⟨gm, i * 9 + 1, none⟩) hml4).trans m1; replace m2 := (h5.cell (p := ⟨gm, i * 9 + 2, none⟩) hml4).trans m2; replace m3 := (h5.cell (p := ⟨gm, i * 9 + 3, none⟩) hml4).trans m3; replace m4 := (h5.cell (p := ⟨gm, i * 9 + 4, none⟩) hml4).trans m4; replace m5 := (h5.cell (p := ⟨gm, i * 9 + 5, none⟩) hml4).trans m5; replace m6 := (h5.cell (p := ⟨gm, i * 9 + 6, none⟩) hml4).trans m6; replace m7 := (h5.cell (p := ⟨gm, i * 9 + 7, none⟩) hml4).trans m7; replace m8 := (h5.cell (p := ⟨gm, i * 9 + 8, none⟩) hml4).trans m8; replace s0 := (h5.cell (p := ⟨Pb, 0, none⟩) hPl4).trans s0; replace s1 := (h5.cell (p := ⟨Pb, 1, none⟩) hPl4).trans s1; replace s2 := (h5.cell (p := ⟨Pb, 2, none⟩) hPl4).trans s2; replace s3 := (h5.cell (p := ⟨Pb, 3, none⟩) hPl4).trans s3; replace s4 := (h5.cell (p := ⟨Pb, 4, none⟩) hPl4).trans s4; replace s5 := (h5.cell (p := ⟨Pb, 5, none⟩) hPl4).trans s5; replace s6 := (h5.cell (p := ⟨Pb, 6, none⟩) hPl4).trans s6; have hq : Below _ _ _ := h5; replace hXl4 := Nat.lt_of_lt_of_le hXl4 h5.size; replace hPl4 := Nat.lt_of_lt_of_le hPl4 h5.size; replace hml4 := Nat.lt_of_lt_of_le hml4 h5.size; clear hq)
        | (go_at_call_of 10 (Value.int .i32 r); refine (Of_any r _).mono ?_; rintro e w6 ⟨rfl, h6⟩; replace v0 := (h6.cell (p := ⟨X, 0, none⟩) hXl4).trans v0; replace v1 := (h6.cell (p := ⟨X, 1, none⟩) hXl4).trans v1; replace v2 := (h6.cell (p := ⟨X, 2, none⟩) hXl4).trans v2; replace v3 := (h6.cell (p := ⟨X, 3, none⟩) hXl4).trans v3; replace v4 := (h6.cell (p := ⟨X, 4, none⟩) hXl4).trans v4; replace v5 := (h6.cell (p := ⟨X, 5, none⟩) hXl4).trans v5; replace v6 := (h6.cell (p := ⟨X, 6, none⟩) hXl4).trans v6; replace v7 := (h6.cell (p := ⟨X, 7, none⟩) hXl4).trans v7; replace v8 := (h6.cell (p := ⟨X, 8, none⟩) hXl4).trans v8; replace m0 := (h6.cell (p := ⟨gm, i * 9, none⟩) hml4).trans m0; replace m1 := (h6.cell (p := ⟨gm, i * 9 + 1, none⟩) hml4).trans m1; replace m2 := (h6.cell (p := ⟨gm, i * 9 + 2, none⟩) hml4).trans m2; replace m3 := (h6.cell (p := ⟨gm, i * 9 + 3, none⟩) hml4).trans m3; replace m4 := (h6.cell (p := ⟨gm, i * 9 + 4, none⟩) hml4).trans m4; replace m5 := (h6.cell (p := ⟨gm, i * 9 + 5, none⟩) hml4).trans m5; replace m6 := (h6.cell (p := ⟨gm, i * 9 + 6, none⟩) hml4).trans m6; replace m7 := (h6.cell (p := ⟨gm, i * 9 + 7, none⟩) hml4).trans m7; replace m8 := (h6.cell (p := ⟨gm, i * 9 + 8, none⟩) hml4).trans m8; replace s0 := (h6.cell (p := ⟨Pb, 0, none⟩) hPl4).trans s0; replace s1 := (h6.cell (p := ⟨Pb, 1, none⟩) hPl4).trans s1; replace s2 := (h6.cell (p := ⟨Pb, 2, none⟩) hPl4).trans s2; replace s3 := (h6.cell (p := ⟨Pb, 3, none⟩) hPl4).trans s3; replace s4 := (h6.cell (p := ⟨Pb, 4, none⟩) hPl4).trans s4; replace s5 := (h6.cell (p := ⟨Pb, 5, none⟩) hPl4).trans s5; replace s6 := (h6.cell (p := ⟨Pb, 6, none⟩) hPl4).trans s6; have hq : Below _ _ _ := h6; replace hXl4 := Nat.lt_of_lt_of_le hXl4 h6.size; replace hPl4 := Nat.lt_of_lt_of_le hPl4 h6.size; replace hml4 := Nat.lt_of_lt_of_le hml4 h6.size; clear hq)
        | (go_at_call 14; refine (awake_any _ ((HR4.out.go (below_of_drew h5)).go h6)).mono ?_; rintro e w7 ⟨rfl, h7⟩; replace v0 := (h7.cell (p := ⟨X, 0, none⟩) hXl4).trans v0; replace v1 := (h7.cell (p := ⟨X, 1, none⟩) hXl4).trans v1; replace v2 := (h7.cell (p := ⟨X, 2, none⟩) hXl4).trans v2; replace v3 := (h7.cell (p := ⟨X, 3, none⟩) hXl4).trans v3; replace v4 := (h7.cell (p := ⟨X, 4, none⟩) hXl4).trans v4; replace v5 := (h7.cell (p := ⟨X, 5, none⟩) hXl4).trans v5; replace v6 := (h7.cell (p := ⟨X, 6, none⟩) hXl4).trans v6; replace v7 := (h7.cell (p := ⟨X, 7, none⟩) hXl4).trans v7; replace v8 := (h7.cell (p := ⟨X, 8, none⟩) hXl4).trans v8; replace m0 := (h7.cell (p := ⟨gm, i * 9, none⟩) hml4).trans m0; replace m1 := (h7.cell (p := ⟨gm, i * 9 + 1, none⟩) hml4).trans m1; replace m2 := (h7.cell (p := ⟨gm, i * 9 + 2, none⟩) hml4).trans m2; replace m3 := (h7.cell (p := ⟨gm, i * 9 + 3, none⟩) hml4).trans m3; replace m4 := (h7.cell (p := ⟨gm, i * 9 + 4, none⟩) hml4).trans m4; replace m5 := (h7.cell (p := ⟨gm, i * 9 + 5, none⟩) hml4).trans m5; replace m6 := (h7.cell (p := ⟨gm, i * 9 + 6, none⟩) hml4).trans m6; replace m7 := (h7.cell (p := ⟨gm, i * 9 + 7, none⟩) hml4).trans m7; replace m8 := (h7.cell (p := ⟨gm, i * 9 + 8, none⟩) hml4).trans m8; replace s0 := (h7.cell (p := ⟨Pb, 0, none⟩) hPl4).trans s0; replace s1 := (h7.cell (p := ⟨Pb, 1, none⟩) hPl4).trans s1; replace s2 := (h7.cell (p := ⟨Pb, 2, none⟩) hPl4).trans s2; replace s3 := (h7.cell (p := ⟨Pb, 3, none⟩) hPl4).trans s3; replace s4 := (h7.cell (p := ⟨Pb, 4, none⟩) hPl4).trans s4; replace s5 := (h7.cell (p := ⟨Pb, 5, none⟩) hPl4).trans s5; replace s6 := (h7.cell (p := ⟨Pb, 6, none⟩) hPl4).trans s6; have hq : Below _ _ _ := h7; replace hXl4 := Nat.lt_of_lt_of_le hXl4 h7.size; replace hPl4 := Nat.lt_of_lt_of_le hPl4 h7.size; replace hml4 := Nat.lt_of_lt_of_le hml4 h7.size; clear hq))
      go_wp2
      go_ret
      exact ⟨rfl, upB (upB (upB hbel4 (below_of_drew h5)) h6) h7⟩

/-! From the walk to the given statement. -/
set_option linter.unusedVariables false
theorem own : ownKnob Tryd.prog.godebug = none := by kernel_rfl
set_option maxRecDepth 100000 in
theorem lifted (os : Os) (started : os.Started) (H : Type) (enc : TypeId × Value → H) :
    ReturnsInHanded {} Tryd.checked os 7 .any (fun w args => (Rows.ucdApartSpec.pre enc Tryd.prog Tryd.f7 [] false w args ∧ laidMetH Tryd.prog Rows.ucdApartRow.laid w) ∧ sizedMet enc Tryd.prog Tryd.f7 (OpenSpec.ofChange Rows.ucdApartSpec) false w args)
      (Rows.ucdApartSpec.post enc Tryd.prog Tryd.f7 false true false false) := by
  refine returnsInHanded_of_change_and (C := Tryd.checked) (X := fun w _ => laidMetH Tryd.prog Rows.ucdApartRow.laid w) (fun _ _ _ hh h => h.of_heap hh) own started (by kernel_rfl) Tryd.func7
    (ChangeSpec.witness_shaped (enc := enc) (C := Tryd.checked) (os := os) (X := fun w _ => laidMetH Tryd.prog Rows.ucdApartRow.laid w) false (World.laidAll Tryd.prog os Rows.ucdApartRow.laid) #[.int .u8 0, .int .i32 0] 8 (World.laidAll_os _ _ _)
      (World.shaped_of_ZipB (by kernel_rfl) (by kernel_rfl)) (by kernel_rfl) (by kernel_rfl) (by kernel_rfl)
      (by rw [MakeChecks.laidMetH_plain _ _ _ (by kernel_rfl)]; exact laidMet_laidAll _ (by kernel_rfl) (by kernel_rfl))) ?_
  intro W base args ds gs before hval0 hW _ _ hL _
  have hval : ∀ (j : Nat) t v, Tryd.f7.params[j]? = some t → args[j]? = some v → Value.okWide Tryd.prog W .any base t v := hval0
  have hW' := hW
  obtain ⟨p, q, hA0, hV, rfl, _, _⟩ := hW
  have hA : DataW.TrodAll enc Tryd.prog W 0 (fun _ => true) true Tryd.f7.params.toList args.toList ds p := hA0
  rw [Tryd.params7] at hA hval
  obtain ⟨v0, vs0, d0, ds0, p0, q0, hargs, rfl, rfl, h0, r0⟩ := trodAll_cons hA
  obtain ⟨v1, vs1, d1, ds1, p1, q1, rfl, rfl, rfl, h1, r1⟩ := trodAll_cons r0
  obtain ⟨rfl, rfl, rfl⟩ := trodAll_nil r1
  obtain rfl : args = #[v0, v1] := by cases args; simp_all
  obtain ⟨rfl, rfl⟩ := trodVars_none hV
  obtain ⟨a0, rfl, rfl, rfl, w0⟩ := open_int Tryd.underlying5 (hval 0 5 v0 rfl rfl) h0
  have b0 : 0 ≤ a0 ∧ a0 ≤ 255 := by simpa [Lit.wf, IntKind.min, IntKind.max, IntKind.signed, IntKind.bits] using w0
  obtain ⟨a1, rfl, rfl, rfl, w1⟩ := open_int Tryd.underlying21 (hval 1 21 v1 rfl rfl) h1
  have b1 : -2147483648 ≤ a1 ∧ a1 ≤ 2147483647 := by simpa [Lit.wf, IntKind.min, IntKind.max, IntKind.signed, IntKind.bits] using w1
  clear hA0 hval0
  rw [MakeChecks.laidMetH_plain _ _ _ (by kernel_rfl)] at hL
  have hBr : BrIs W := brIs_of_reads (Lib.laidMet.reads hL (.tail _ (.tail _ (.tail _ (.tail _ (.tail _ (.tail _ (.head _))))))))
  refine (walk a0 a1 W b0.1 b0.2 b1.1 b1.2 hBr).mono fun e W' ⟨he, bel⟩ => ?_
  subst he
  exact ⟨_, rfl, _, _, _, [], _, [], hW', trodAll_mk1 (shut_bool Tryd.underlying4 _), (trodAll_cons_mk (shut_int Tryd.underlying5 w0) (trodAll_cons_mk (shut_int Tryd.underlying21 w1) trodAll_mk0)), rfl, bel.frame _, fun h => by cases h⟩

theorem row_holds : Rows.UcdApartSaid :=
  OpenClaim.holds_of_wide 7 Tryd.f7 rfl rfl rfl rfl rfl rfl rfl ⟨rfl, rfl, rfl, rfl, rfl⟩ rfl rfl rfl rfl rfl (by kernel_rfl) Tryd.func7 (by kernel_rfl)
    (of_decide_eq_true (by kernel_rfl)) (by unfold Func.isWrapper; first | (rw [if_pos (by decide +kernel)]; kernel_rfl) | (rw [if_neg (by decide +kernel)]; exact ⟨rfl, rfl⟩))
    (fun os started H enc _ => lifted os started H enc)

theorem proved : Rows.UcdApartCardSaid :=
  Claim7.holds_tied_plain_at .later [] [.data, .data, .data, .data, .sentinel, .sentinel, .data, .pinned] true (true, "bd988b9575ebbf85d13ef5fdc5027332695ade4174a37e91737069d49f722970") true
    row_holds (fun _ h => by cases h) (by kernel_rfl) (fun _ h => by cases h) ucdApart_row_tie rfl ⟨rfl, rfl⟩ (by kernel_rfl) rfl
    (fun f fn hf hfn => by
      obtain rfl : f = 7 := Option.some.inj ((show Tryd.prog.funcNamed "fascia/fascialaw02.UcdApart" = some 7 by kernel_rfl).symm.trans hf) |>.symm
      obtain rfl : fn = Tryd.f7 := (Option.some.inj (Tryd.func7.symm.trans hfn)).symm
      exact ⟨by kernel_rfl, fun j t ht => by
        rw [Tryd.params7] at ht
        have hm : t ∈ [5, 21] := by simpa using Array.mem_of_getElem? ht
        have hall : ([5, 21].all fun u => !Tryd.prog.wantsStandIn u) = true := by kernel_rfl
        exact (show Tryd.prog.wantsStandIn t = false by simpa using List.all_eq_true.1 hall t hm)⟩)
    (by kernel_rfl)
end Go.Proofs.YtioagoehmdppiaaDoor.ucdApart
