/-
  For any two code points, up to three marks of Arabic on either side: behind a virama either joiner may stand, whatever comes behind; ZWJ nowhere else; ZWNJ else just between letters that join on, with marks between or not (fascialaw08.ContextJoins answers true). No condition.
-/
import Derived.Test.YtmeihnhghdmjiaaDoorCtxM
import Derived.Test.YtmeihnhghdmjiaaDoorFrame
import Derived.Test.YtmeihnhghdmjiaaDoorTie
import Derived.Test.YtmeihnhghdmjiaaDoorCards
import Derived.ProofKit
import Derived.Lay
import Derived.Stop.Joined
import Derived.SevenTiedAt
namespace Go.Proofs.YtmeihnhghdmjiaaDoor.contextJoins
open Go.ChangeShapes Go.WideShapes Go.ChangeAt Go.RowKit Ctx Ucd

attribute [local go_sem ↓] Go.wp_at_zero Go.wp_at_succ
set_option maxRecDepth 100000 in
set_option maxHeartbeats 8000000 in
theorem walk (a b bf af : Int) (w : World) (ha0 : -2147483648 ≤ a) (ha1 : a ≤ 2147483647) (hb0 : -2147483648 ≤ b) (hb1 : b ≤ 2147483647) (hc0 : 0 ≤ bf) (_hc1 : bf ≤ 255) (hd0 : 0 ≤ af) (_hd1 : af ≤ 255) : Calls Tryd.prog 5 #[.int .i32 a, .int .i32 b, .int .u8 bf, .int .u8 af] w fun e w' => e = .returned (.bool true) ∧ Below w.heap.size w w' := by
  have HAW := Lib.hid awake8_any
  obtain ⟨p, hp⟩ : ∃ p : Nat, bf.tmod 4 = (p : Int) := ⟨(bf.tmod 4).toNat, by rw [Int.tmod_eq_emod_of_nonneg hc0]; omega⟩
  obtain ⟨q, hq⟩ : ∃ q : Nat, af.tmod 4 = (q : Int) := ⟨(af.tmod 4).toNat, by rw [Int.tmod_eq_emod_of_nonneg hd0]; omega⟩
  have hp4 : p < 4 := by rw [Int.tmod_eq_emod_of_nonneg hc0] at hp; omega
  have hq4 : q < 4 := by rw [Int.tmod_eq_emod_of_nonneg hd0] at hq; omega
  have HP := Lib.hid hp
  have HQ := Lib.hid hq
  have HOa := Lib.hid (fun w => Of_any a w)
  have HOb := Lib.hid (fun w => Of_any b w)
  have HZ1 := Lib.hid (at_zwj a b p q)
  have HZ2 := Lib.hid (at_zwnj a b p q)
  unfold kil Ctx.cc Ctx.jt at HZ2
  unfold kil Ctx.cc at HZ1
  generalize of a = pa at HOa HZ1 HZ2
  generalize of b = pb at HOb HZ2
  have HAB := Lib.hid (show (-2147483648 ≤ a ∧ a ≤ 2147483647) ∧ (-2147483648 ≤ b ∧ b ≤ 2147483647) from ⟨⟨ha0, ha1⟩, hb0, hb1⟩)
  have HW1 := upA (w.alloc (.cells #[.int .i32 b] 21)) (.cells #[.int .u8 bf] 5)
  obtain ⟨W, hW⟩ : ∃ W, ((w.alloc (.cells #[.int .i32 b] 21)).alloc (.cells #[.int .u8 bf] 5)).alloc (.cells #[.int .u8 af] 5) = W := ⟨_, rfl⟩
  have hBW : Below w.heap.size w W := by rw [← hW]; exact up_alloc (up_alloc (up_alloc (Below.refl _ w)))
  have hb3 : boxAt W w.heap.size (.int .i32 b) ∧ boxAt W (w.heap.size + 1) (.int .u8 bf) ∧ boxAt W (w.heap.size + 1 + 1) (.int .u8 af) := by
    rw [← hW]
    have q0 : (w.alloc (.cells #[.int .i32 b] 21)).heap.size = w.heap.size + 1 := by show (w.heap.push _).size = _; simp
    have q1 : ((w.alloc (.cells #[.int .i32 b] 21)).alloc (.cells #[.int .u8 bf] 5)).heap.size = w.heap.size + 1 + 1 := by show ((w.heap.push _).push _).size = _; simp
    have k0 := keptA (keptA (alloc_new w (.cells #[.int .i32 b] 21)) (.cells #[.int .u8 bf] 5)) (.cells #[.int .u8 af] 5)
    have k1 := keptA (alloc_new (w.alloc (.cells #[.int .i32 b] 21)) (.cells #[.int .u8 bf] 5)) (.cells #[.int .u8 af] 5)
    have k2 := alloc_new ((w.alloc (.cells #[.int .i32 b] 21)).alloc (.cells #[.int .u8 bf] 5)) (.cells #[.int .u8 af] 5)
    rw [q0] at k1
    rw [q1] at k2
    exact ⟨boxAt.of k0, boxAt.of k1, boxAt.of k2⟩
  clear ha0 ha1 hb0 hb1 hc0 _hc1 hd0 _hd1 hp hq HW1
  go_enter Tryd.func5, Tryd.ntmps5
  go_upto_region 2 with fail
  try rw [hW]
  clear hW
  obtain ⟨B, hBe⟩ : ∃ B, w.heap.size = B := ⟨_, rfl⟩
  rw [hBe] at hb3 ⊢
  have HBE := Lib.hid hBe
  clear hBe
  obtain ⟨h3, h1, h2⟩ := hb3
  have c0 := h3.2
  have HB := Lib.hid h3.1
  have cD : W.drew.cell? ⟨B, 0, none⟩ = some (.int .i32 b) := c0
  go_cut [10, 11] (fun s10 s11 wx => ∃ X Y, s10 = .pointer (some ⟨X, 0, none⟩) ∧ s11 = .pointer (some ⟨Y, 0, none⟩) ∧ Below W.heap.size W wx ∧ wx.cell? ⟨X, 2, none⟩ = some (.int .u8 (g pa 2)) ∧ wx.cell? ⟨X, 3, none⟩ = some (.int .u8 (g pa 3)) ∧ wx.cell? ⟨Y, 2, none⟩ = some (.int .u8 (g pb 2)))
  case first =>
    clear h1 h2 HZ1 HZ2 hBW HAW HAB
    go_region_held3 (fun w' => w'.cell? ⟨B, 0, none⟩ = some (.int .i32 b)) (first
      | with_reducible exact cD
      | exact (Below.cell (B := W.heap.size) (by (repeat (first | with_reducible exact hA | with_reducible exact Below.refl _ _ | (with_reducible refine up_set ?_ ?_; rotate_left; (· omega)) | with_reducible refine up_alloc ?_ | with_reducible refine up_drew ?_))) HB.out).trans c0) (first
      | (go_at_call_of 11 a; refine (HOa.out _).mono ?_; rintro e u1 ⟨rfl, hb1⟩; (with_reducible have hbP : Below W.drew.heap.size W.drew u1 := hb1); have hA : Below W.heap.size W u1 := below_undrew hb1; have hs1 : W.heap.size ≤ u1.heap.size := hA.size; clear hb1 hbP)
      | (go_at_call_of 11 a; refine (HOa.out _).mono ?_; rintro e u1 ⟨rfl, hb1⟩; (with_reducible have hbP : Below (W.alloc (.cells #[.int .u8 0, .int .u8 0, .int .u8 0, .int .u8 0, .int .u8 0, .int .u8 0, .int .u8 0] 29)).drew.heap.size (W.alloc (.cells #[.int .u8 0, .int .u8 0, .int .u8 0, .int .u8 0, .int .u8 0, .int .u8 0, .int .u8 0] 29)).drew u1 := hb1); have hA : Below W.heap.size W u1 := upDA (.cells #[.int .u8 0, .int .u8 0, .int .u8 0, .int .u8 0, .int .u8 0, .int .u8 0, .int .u8 0] 29) hb1; have hs1 : W.heap.size < u1.heap.size := size_past (w := W) (o := (.cells #[.int .u8 0, .int .u8 0, .int .u8 0, .int .u8 0, .int .u8 0, .int .u8 0, .int .u8 0] 29)) (below_undrew (w := W.alloc (.cells #[.int .u8 0, .int .u8 0, .int .u8 0, .int .u8 0, .int .u8 0, .int .u8 0, .int .u8 0] 29)) hb1); have hX1 : u1.heap[W.heap.size]? = some (.cells #[.int .u8 0, .int .u8 0, .int .u8 0, .int .u8 0, .int .u8 0, .int .u8 0, .int .u8 0] 29) := keptO (w := (W.alloc (.cells #[.int .u8 0, .int .u8 0, .int .u8 0, .int .u8 0, .int .u8 0, .int .u8 0, .int .u8 0] 29)).drew) (alloc_new W (.cells #[.int .u8 0, .int .u8 0, .int .u8 0, .int .u8 0, .int .u8 0, .int .u8 0, .int .u8 0] 29)) hb1; clear hb1 hbP)
      | (go_at_call_of 11 a; refine (HOa.out _).mono ?_; rintro e u1 ⟨rfl, hb1⟩; (with_reducible have hbP : Below ((W.alloc (.cells #[.int .u8 0, .int .u8 0, .int .u8 0, .int .u8 0, .int .u8 0, .int .u8 0, .int .u8 0] 29)).alloc (.cells #[.int .u8 0, .int .u8 0, .int .u8 0, .int .u8 0, .int .u8 0, .int .u8 0, .int .u8 0] 29)).drew.heap.size ((W.alloc (.cells #[.int .u8 0, .int .u8 0, .int .u8 0, .int .u8 0, .int .u8 0, .int .u8 0, .int .u8 0] 29)).alloc (.cells #[.int .u8 0, .int .u8 0, .int .u8 0, .int .u8 0, .int .u8 0, .int .u8 0, .int .u8 0] 29)).drew u1 := hb1); have hA : Below W.heap.size W u1 := upDAA (.cells #[.int .u8 0, .int .u8 0, .int .u8 0, .int .u8 0, .int .u8 0, .int .u8 0, .int .u8 0] 29) (.cells #[.int .u8 0, .int .u8 0, .int .u8 0, .int .u8 0, .int .u8 0, .int .u8 0, .int .u8 0] 29) hb1; have hs1 : W.heap.size < u1.heap.size := Nat.lt_of_lt_of_le (size_past (w := W) (o := (.cells #[.int .u8 0, .int .u8 0, .int .u8 0, .int .u8 0, .int .u8 0, .int .u8 0, .int .u8 0] 29)) (Below.refl _ _)) (below_past (.cells #[.int .u8 0, .int .u8 0, .int .u8 0, .int .u8 0, .int .u8 0, .int .u8 0, .int .u8 0] 29) (below_undrew (w := (W.alloc (.cells #[.int .u8 0, .int .u8 0, .int .u8 0, .int .u8 0, .int .u8 0, .int .u8 0, .int .u8 0] 29)).alloc (.cells #[.int .u8 0, .int .u8 0, .int .u8 0, .int .u8 0, .int .u8 0, .int .u8 0, .int .u8 0] 29)) hb1)).size; have hX1 : u1.heap[W.heap.size]? = some (.cells #[.int .u8 0, .int .u8 0, .int .u8 0, .int .u8 0, .int .u8 0, .int .u8 0, .int .u8 0] 29) := keptO (w := ((W.alloc (.cells #[.int .u8 0, .int .u8 0, .int .u8 0, .int .u8 0, .int .u8 0, .int .u8 0, .int .u8 0] 29)).alloc (.cells #[.int .u8 0, .int .u8 0, .int .u8 0, .int .u8 0, .int .u8 0, .int .u8 0, .int .u8 0] 29)).drew) (keptA (alloc_new W (.cells #[.int .u8 0, .int .u8 0, .int .u8 0, .int .u8 0, .int .u8 0, .int .u8 0, .int .u8 0] 29)) (.cells #[.int .u8 0, .int .u8 0, .int .u8 0, .int .u8 0, .int .u8 0, .int .u8 0, .int .u8 0] 29)) hb1; have hX2 : u1.heap[W.heap.size + 1]? = some (.cells #[.int .u8 0, .int .u8 0, .int .u8 0, .int .u8 0, .int .u8 0, .int .u8 0, .int .u8 0] 29) := keptO (w := ((W.alloc (.cells #[.int .u8 0, .int .u8 0, .int .u8 0, .int .u8 0, .int .u8 0, .int .u8 0, .int .u8 0] 29)).alloc (.cells #[.int .u8 0, .int .u8 0, .int .u8 0, .int .u8 0, .int .u8 0, .int .u8 0, .int .u8 0] 29)).drew) (alloc_newS W (.cells #[.int .u8 0, .int .u8 0, .int .u8 0, .int .u8 0, .int .u8 0, .int .u8 0, .int .u8 0] 29) (.cells #[.int .u8 0, .int .u8 0, .int .u8 0, .int .u8 0, .int .u8 0, .int .u8 0, .int .u8 0] 29)) hb1; clear hb1 hbP)
      | (go_at_call_of 11 b; refine (HOb.out _).mono ?_; rintro e u2 ⟨rfl, hb2⟩; (with_reducible have hbQ : Below u1.heap.size u1 u2 := hb2); have y1 := keptO hX1 hb2; obtain ⟨⟨_, _, _, _, _, _, _⟩, ⟨_, _, _, _, _, _, _⟩⟩ := cells7 y1; have y2 := keptO hX2 hb2; obtain ⟨⟨_, _, _, _, _, _, _⟩, ⟨_, _, _, _, _, _, _⟩⟩ := cells7 y2; have hA' := upB hA hb2; have hs2 : u1.heap.size ≤ u2.heap.size := hb2.size; clear hA; have hA := hA'; have hne12 : W.heap.size ≠ W.heap.size + 1 := (by omega); have hne21 : W.heap.size + 1 ≠ W.heap.size := (by omega); skip)
      | (go_at_call_of 11 b; refine (HOb.out _).mono ?_; rintro e u2 ⟨rfl, hb2⟩; (with_reducible have hbQ : Below (u1.alloc (.cells #[.int .u8 0, .int .u8 0, .int .u8 0, .int .u8 0, .int .u8 0, .int .u8 0, .int .u8 0] 29)).heap.size (u1.alloc (.cells #[.int .u8 0, .int .u8 0, .int .u8 0, .int .u8 0, .int .u8 0, .int .u8 0, .int .u8 0] 29)) u2 := hb2); have y1 := keptO (keptA hX1 (.cells #[.int .u8 0, .int .u8 0, .int .u8 0, .int .u8 0, .int .u8 0, .int .u8 0, .int .u8 0] 29)) hb2; obtain ⟨⟨_, _, _, _, _, _, _⟩, ⟨_, _, _, _, _, _, _⟩⟩ := cells7 y1; have y2 := keptO (alloc_new u1 (.cells #[.int .u8 0, .int .u8 0, .int .u8 0, .int .u8 0, .int .u8 0, .int .u8 0, .int .u8 0] 29)) hb2; obtain ⟨⟨_, _, _, _, _, _, _⟩, ⟨_, _, _, _, _, _, _⟩⟩ := cells7 y2; have hA' := upAB (.cells #[.int .u8 0, .int .u8 0, .int .u8 0, .int .u8 0, .int .u8 0, .int .u8 0, .int .u8 0] 29) hA hb2; have hs2 : u1.heap.size < u2.heap.size := size_past hb2; clear hA; have hA := hA'; have hne12 : W.heap.size ≠ u1.heap.size := (by omega); have hne21 : u1.heap.size ≠ W.heap.size := (by omega); skip)
      | (go_at_call_of 11 b; refine (HOb.out _).mono ?_; rintro e u2 ⟨rfl, hb2⟩; (with_reducible have hbQ : Below u1.heap.size u1 u2 := hb2); have y1 := keptO hX1 hb2; obtain ⟨⟨_, _, _, _, _, _, _⟩, ⟨_, _, _, _, _, _, _⟩⟩ := cells7 y1; have ya1 := keptA y1 (.cells #[.int .u8 0, .int .u8 0, .int .u8 0, .int .u8 0, .int .u8 0, .int .u8 0, .int .u8 0] 29); obtain ⟨⟨_, _, _, _, _, _, _⟩, ⟨_, _, _, _, _, _, _⟩⟩ := cells7 ya1; have yb1 := keptA y1 (.cells #[.int .u8 (g pa 0), .int .u8 (g pa 1), .int .u8 (g pa 2), .int .u8 (g pa 3), .int .u8 (g pa 4), .int .u8 (g pa 5), .int .u8 (g pa 6)] 29); obtain ⟨⟨_, _, _, _, _, _, _⟩, ⟨_, _, _, _, _, _, _⟩⟩ := cells7 yb1; have hA' := upB hA hb2; have hs2 : u1.heap.size ≤ u2.heap.size := hb2.size; clear hA; have hA := hA'; have hne : W.heap.size ≠ u2.heap.size := (by omega); have hne' : u2.heap.size ≠ W.heap.size := (by omega); skip)
      | (go_at_call_of 11 b; refine (HOb.out _).mono ?_; rintro e u2 ⟨rfl, hb2⟩; (with_reducible have hbQ : Below ((u1.alloc (.cells #[.int .u8 0, .int .u8 0, .int .u8 0, .int .u8 0, .int .u8 0, .int .u8 0, .int .u8 0] 29)).alloc (.cells #[.int .u8 0, .int .u8 0, .int .u8 0, .int .u8 0, .int .u8 0, .int .u8 0, .int .u8 0] 29)).heap.size ((u1.alloc (.cells #[.int .u8 0, .int .u8 0, .int .u8 0, .int .u8 0, .int .u8 0, .int .u8 0, .int .u8 0] 29)).alloc (.cells #[.int .u8 0, .int .u8 0, .int .u8 0, .int .u8 0, .int .u8 0, .int .u8 0, .int .u8 0] 29)) u2 := hb2); have y1 := keptO (keptA (alloc_new u1 (.cells #[.int .u8 0, .int .u8 0, .int .u8 0, .int .u8 0, .int .u8 0, .int .u8 0, .int .u8 0] 29)) (.cells #[.int .u8 0, .int .u8 0, .int .u8 0, .int .u8 0, .int .u8 0, .int .u8 0, .int .u8 0] 29)) hb2; obtain ⟨⟨_, _, _, _, _, _, _⟩, ⟨_, _, _, _, _, _, _⟩⟩ := cells7 y1; have y2 := keptO (alloc_newS u1 (.cells #[.int .u8 0, .int .u8 0, .int .u8 0, .int .u8 0, .int .u8 0, .int .u8 0, .int .u8 0] 29) (.cells #[.int .u8 0, .int .u8 0, .int .u8 0, .int .u8 0, .int .u8 0, .int .u8 0, .int .u8 0] 29)) hb2; obtain ⟨⟨_, _, _, _, _, _, _⟩, ⟨_, _, _, _, _, _, _⟩⟩ := cells7 y2; have hb3 := below_past (.cells #[.int .u8 0, .int .u8 0, .int .u8 0, .int .u8 0, .int .u8 0, .int .u8 0, .int .u8 0] 29) hb2; have hA' := upAB (.cells #[.int .u8 0, .int .u8 0, .int .u8 0, .int .u8 0, .int .u8 0, .int .u8 0, .int .u8 0] 29) hA hb3; have hs2 : u1.heap.size < u2.heap.size := size_past hb3; clear hA; have hA := hA'; have hne12 : u1.heap.size ≠ u1.heap.size + 1 := (by omega); have hne21 : u1.heap.size + 1 ≠ u1.heap.size := (by omega); skip)
      | (go_at_call_of 11 b; refine (HOb.out _).mono ?_; rintro e u2 ⟨rfl, hb2⟩; (with_reducible have hbQ : Below (u1.alloc (.cells #[.int .u8 0, .int .u8 0, .int .u8 0, .int .u8 0, .int .u8 0, .int .u8 0, .int .u8 0] 29)).heap.size (u1.alloc (.cells #[.int .u8 0, .int .u8 0, .int .u8 0, .int .u8 0, .int .u8 0, .int .u8 0, .int .u8 0] 29)) u2 := hb2); have y1 := keptO (alloc_new u1 (.cells #[.int .u8 0, .int .u8 0, .int .u8 0, .int .u8 0, .int .u8 0, .int .u8 0, .int .u8 0] 29)) hb2; obtain ⟨⟨_, _, _, _, _, _, _⟩, ⟨_, _, _, _, _, _, _⟩⟩ := cells7 y1; have ya1 := keptA y1 (.cells #[.int .u8 0, .int .u8 0, .int .u8 0, .int .u8 0, .int .u8 0, .int .u8 0, .int .u8 0] 29); obtain ⟨⟨_, _, _, _, _, _, _⟩, ⟨_, _, _, _, _, _, _⟩⟩ := cells7 ya1; have yb1 := keptA y1 (.cells #[.int .u8 (g pa 0), .int .u8 (g pa 1), .int .u8 (g pa 2), .int .u8 (g pa 3), .int .u8 (g pa 4), .int .u8 (g pa 5), .int .u8 (g pa 6)] 29); obtain ⟨⟨_, _, _, _, _, _, _⟩, ⟨_, _, _, _, _, _, _⟩⟩ := cells7 yb1; have hA' := upAB (.cells #[.int .u8 0, .int .u8 0, .int .u8 0, .int .u8 0, .int .u8 0, .int .u8 0, .int .u8 0] 29) hA hb2; have hs2 : u1.heap.size < u2.heap.size := size_past hb2; clear hA; have hA := hA'; have hne : u1.heap.size ≠ u2.heap.size := (by omega); have hne' : u2.heap.size ≠ u1.heap.size := (by omega); skip)
      | (go_at_call_of 11 b; refine (HOb.out _).mono ?_; rintro e u2 ⟨rfl, hb2⟩; (with_reducible have hbQ : Below u1.heap.size u1 u2 := hb2); have hA' := upB hA hb2; have hs2 : u1.heap.size ≤ u2.heap.size := hb2.size; clear hA; have hA := hA'; skip)
      | fail)
    all_goals (
      go_wp2_with fail
      go_meet
      refine ⟨_, _, rfl, rfl, ?_, ?_⟩
      · (repeat (first | with_reducible exact hA | with_reducible exact Below.refl _ _ | (with_reducible refine up_set ?_ ?_; rotate_left; (· omega)) | with_reducible refine up_alloc ?_ | with_reducible refine up_drew ?_))
      · first
          | with_reducible exact fin14 y1 y2 hne12
          | with_reducible exact fin14 y2 y1 hne21
          | with_reducible exact fin14 (keptA y1 (.cells #[.int .u8 0, .int .u8 0, .int .u8 0, .int .u8 0, .int .u8 0, .int .u8 0, .int .u8 0] 29)) (alloc_new u2 (.cells #[.int .u8 0, .int .u8 0, .int .u8 0, .int .u8 0, .int .u8 0, .int .u8 0, .int .u8 0] 29)) hne
          | with_reducible exact fin7 (alloc_new u2 (.cells #[.int .u8 (g pa 0), .int .u8 (g pa 1), .int .u8 (g pa 2), .int .u8 (g pa 3), .int .u8 (g pa 4), .int .u8 (g pa 5), .int .u8 (g pa 6)] 29)) (keptA y1 (.cells #[.int .u8 (g pa 0), .int .u8 (g pa 1), .int .u8 (g pa 2), .int .u8 (g pa 3), .int .u8 (g pa 4), .int .u8 (g pa 5), .int .u8 (g pa 6)] 29)) hne'
          | with_reducible exact fin7a y1
          | with_reducible exact fin7b y1
          | with_reducible exact fin0 (keptA (alloc_new u2 (.cells #[.int .u8 (g pa 0), .int .u8 (g pa 1), .int .u8 (g pa 2), .int .u8 (g pa 3), .int .u8 (g pa 4), .int .u8 (g pa 5), .int .u8 (g pa 6)] 29)) (.cells #[.int .u8 (g pb 0), .int .u8 (g pb 1), .int .u8 (g pb 2), .int .u8 (g pb 3), .int .u8 (g pb 4), .int .u8 (g pb 5), .int .u8 (g pb 6)] 29)) (alloc_newS u2 (.cells #[.int .u8 (g pa 0), .int .u8 (g pa 1), .int .u8 (g pa 2), .int .u8 (g pa 3), .int .u8 (g pa 4), .int .u8 (g pa 5), .int .u8 (g pa 6)] 29) (.cells #[.int .u8 (g pb 0), .int .u8 (g pb 1), .int .u8 (g pb 2), .int .u8 (g pb 3), .int .u8 (g pb 4), .int .u8 (g pb 5), .int .u8 (g pb 6)] 29))
          | with_reducible exact fin0 (alloc_newS u2 (.cells #[.int .u8 (g pb 0), .int .u8 (g pb 1), .int .u8 (g pb 2), .int .u8 (g pb 3), .int .u8 (g pb 4), .int .u8 (g pb 5), .int .u8 (g pb 6)] 29) (.cells #[.int .u8 (g pa 0), .int .u8 (g pa 1), .int .u8 (g pa 2), .int .u8 (g pa 3), .int .u8 (g pa 4), .int .u8 (g pa 5), .int .u8 (g pa 6)] 29)) (keptA (alloc_new u2 (.cells #[.int .u8 (g pb 0), .int .u8 (g pb 1), .int .u8 (g pb 2), .int .u8 (g pb 3), .int .u8 (g pb 4), .int .u8 (g pb 5), .int .u8 (g pb 6)] 29)) (.cells #[.int .u8 (g pa 0), .int .u8 (g pa 1), .int .u8 (g pa 2), .int .u8 (g pa 3), .int .u8 (g pa 4), .int .u8 (g pa 5), .int .u8 (g pa 6)] 29)))
  case rest =>
    obtain ⟨X, Y, rfl, rfl, hAx, x2, x3, y2⟩ := hcut
    clear HOa HOb cD c0 HB
    generalize wc = W1 at hAx x2 x3 y2 ⊢
    have HBW2 := Lib.hid hBW
    have H1 := Lib.hid h1
    have H2 := Lib.hid h2
    have H3 := Lib.hid h3
    have e1 := h1.go hAx
    clear h1 h2 h3 hBW
    generalize g pa 2 = jA at x2 HZ2
    generalize g pa 3 = cA at x3 HZ1 HZ2
    generalize g pb 2 = jB at y2 HZ2
    have HC : Hid (∀ j : Int, -2147483648 ≤ j → j ≤ 2147483647 → C32 (jrow j a b p q)) := Lib.hid (fun j k0 k1 => by
      rw [jrow_eq]
      intro x hx
      rcases List.mem_append.1 hx with h | h
      · rcases List.mem_append.1 h with h | h
        · rcases List.mem_cons.1 h with h | h
          · rw [h]; exact HAB.out.1
          · rw [(List.mem_replicate.1 h).2]; decide
        · rw [List.mem_singleton] at h; rw [h]; exact ⟨k0, k1⟩
      · rcases List.mem_append.1 h with h | h
        · rw [(List.mem_replicate.1 h).2]; decide
        · rw [List.mem_singleton] at h; rw [h]; exact HAB.out.2)
    have HRC : Hid (∀ (V : World) (h : Below W.heap.size W V) (j x : Int), -2147483648 ≤ j → j ≤ 2147483647 → atC (jrow j a b p q) (1 + p) = x → Calls Tryd.prog 12 #[.int .i32 j, .slice (some ⟨V.heap.size, 0, none⟩) 1 1, .pointer (some ⟨B + 1, 0, none⟩), .pointer (some ⟨B + 1 + 1, 0, none⟩), .pointer (some ⟨B, 0, none⟩)] (V.alloc (.cells #[.int .i32 a] 21)) (fun e w' => e = .returned (.int .u8 x) ∧ Below W.heap.size W w')) := Lib.hid (fun V h j x k0 k1 hx => by
      have hV := up_alloc (o := .cells #[.int .i32 a] 21) h
      have := row_call j a b bf af p q (some ⟨V.heap.size, 0, none⟩) 1 (B + 1) (B + 1 + 1) B (V.alloc (.cells #[.int .i32 a] 21)) HP.out HQ.out hp4 hq4 (HC.out j k0 k1) ⟨Nat.lt_of_lt_of_le H1.out.1 hV.size, H1.out.go hV⟩ ⟨Nat.lt_of_lt_of_le H2.out.1 hV.size, H2.out.go hV⟩ ⟨Nat.lt_of_lt_of_le H3.out.1 hV.size, H3.out.go hV⟩ (Ctx.row_new V (cl .i32 [a]) 21)
      rw [hx] at this
      exact this.mono (fun e w' hh => ⟨hh.1, upB hV hh.2⟩))
    have HAT : Hid (∀ (V : World) (h : Below W.heap.size W V) (j : Int), j = 8204 ∨ j = 8205 → Calls Tryd.prog 8 #[.slice (some ⟨V.heap.size, 0, none⟩) 4 4, .int .i64 2] (V.alloc (.cells #[.int .i32 a, .int .i32 2381, .int .i32 j, .int .i32 b] 21)) (fun e w' => e = .returned (.int .u8 0) ∧ Below W.heap.size W w')) := Lib.hid (fun V h j hj => by
      have hV := up_alloc (o := .cells #[.int .i32 a, .int .i32 2381, .int .i32 j, .int .i32 b] 21) h
      have := At_any [a, 2381, j, b] 2 (some ⟨V.heap.size, 0, none⟩) 4 4 (V.alloc (.cells #[.int .i32 a, .int .i32 2381, .int .i32 j, .int .i32 b] 21)) rfl (by decide) (by decide) (fun x hx => by
        simp only [List.mem_cons, List.not_mem_nil, or_false] at hx
        rcases hx with h | h | h | h
        · rw [h]; exact HAB.out.1
        · rw [h]; decide
        · rw [h]; rcases hj with h | h <;> (rw [h]; decide)
        · rw [h]; exact HAB.out.2) (Ctx.row_new V (cl .i32 [a, 2381, j, b]) 21)
      rw [at_vir j a b hj] at this
      exact this.mono (fun e w' hh => ⟨hh.1, upB hV hh.2⟩))
    have hpm := HP.out
    have hwp : IntKind.u8.wrap (p : Int) = (p : Int) := by simp [IntKind.wrap, IntKind.bits, IntKind.signed]; omega
    obtain ⟨K, hK⟩ : ∃ K, (decide (p = 0) && decide (cA = 9)) = K := ⟨_, rfl⟩
    have HK := Lib.hid hK
    rw [hK] at HZ1 HZ2
    clear hK hq4
    go_upto_region 3 with fail
    go_cut [12] (fun s12 wx => s12 = .bool K ∧ wx = W1)
    case first =>
      by_cases hp0 : p = 0
      · have HKK : Hid (K = decide (cA = 9)) := Lib.hid (by rw [← HK.out, decide_eq_true hp0, Bool.true_and])
        clear HRC HAT HZ1 HZ2 HC HK H1 H2 H3 HQ HP
        subst hp0
        by_cases h9 : cA = 9
        · have HKT : Hid (K = true) := Lib.hid (by rw [HKK.out, decide_eq_true h9])
          clear HKK
          subst h9
          go_wp2_with fail
          go_meet
          exact ⟨by first | (rw [HKT.out]; rfl) | rw [HKT.out] | (rw [HKT.out]; simp), rfl⟩
        · have HKT : Hid (K = false) := Lib.hid (by rw [HKK.out, decide_eq_false h9])
          have h9b : (cA == 9) = false := by simpa using h9
          clear HKK h9
          go_wp2_with fail
          go_meet
          exact ⟨by first | (rw [HKT.out]; rfl) | rw [HKT.out] | (rw [HKT.out]; simp), rfl⟩
      · have HKT : Hid (K = false) := Lib.hid (by rw [← HK.out, decide_eq_false hp0]; rfl)
        have hpb : ((p : Int) == 0) = false := by simp; omega
        clear HRC HAT HZ1 HZ2 HC HK H1 H2 H3 HQ HP
        go_wp2_with fail
        go_meet
        exact ⟨by first | (rw [HKT.out]; rfl) | rw [HKT.out] | (rw [HKT.out]; simp), rfl⟩
    case rest =>
      obtain ⟨rfl, rfl⟩ := hcut
      clear HK x3 e1 hpm hwp
      have hon : Hid (∀ j : Int, on j = (decide (j = 3) || decide (j = 4))) := Lib.hid (fun j => rfl)
      have hbk : Hid (∀ j : Int, back j = (decide (j = 3) || decide (j = 5))) := Lib.hid (fun j => rfl)
      obtain ⟨L, hL⟩ : ∃ L, on jA = L := ⟨_, rfl⟩
      obtain ⟨R, hR⟩ : ∃ R, back jB = R := ⟨_, rfl⟩
      have HL := Lib.hid hL
      have HR := Lib.hid hR
      rw [hL, hR] at HZ2
      clear hL hR
      go_upto_region 4 with fail
      go_cut [13] (fun s13 wx => s13 = .bool L ∧ wx = wc)
      case first =>
        clear HRC HAT HZ1 HZ2 HC H1 H2 H3 HQ HP
        by_cases h3 : jA = 3
        · have HLT : Hid (L = true) := Lib.hid (by rw [← HL.out, hon.out, decide_eq_true h3]; rfl)
          subst h3
          clear HL
          go_wp2_with fail
          go_meet
          exact ⟨by first | (rw [HLT.out]; rfl) | rw [HLT.out] | (rw [HLT.out]; simp), rfl⟩
        · have HLT : Hid (L = decide (jA = 4)) := Lib.hid (by rw [← HL.out, hon.out, decide_eq_false h3]; rfl)
          have h3b : (jA == 3) = false := by simpa using h3
          clear HL h3
          go_wp2_with fail
          go_meet
          exact ⟨by first | (rw [HLT.out]; rfl) | rw [HLT.out] | (rw [HLT.out]; simp), rfl⟩
      case rest =>
        obtain ⟨rfl, rfl⟩ := hcut
        clear HL
        go_upto_region 5 with fail
        go_cut [14] (fun s14 wx => s14 = .bool R ∧ wx = wc)
        case first =>
          clear HRC HAT HZ1 HZ2 HC H1 H2 H3 HQ HP
          by_cases h3 : jB = 3
          · have HLT : Hid (R = true) := Lib.hid (by rw [← HR.out, hbk.out, decide_eq_true h3]; rfl)
            subst h3
            clear HR
            go_wp2_with fail
            go_meet
            exact ⟨by first | (rw [HLT.out]; rfl) | rw [HLT.out] | (rw [HLT.out]; simp), rfl⟩
          · have HLT : Hid (R = decide (jB = 5)) := Lib.hid (by rw [← HR.out, hbk.out, decide_eq_false h3]; rfl)
            have h3b : (jB == 3) = false := by simpa using h3
            clear HR h3
            go_wp2_with fail
            go_meet
            exact ⟨by first | (rw [HLT.out]; rfl) | rw [HLT.out] | (rw [HLT.out]; simp), rfl⟩
        case rest =>
          obtain ⟨rfl, rfl⟩ := hcut
          clear HR hon hbk
          by_cases hB2 : jB = 2
          · subst hB2
            clear HZ1 HZ2 HRC HAT
            by_cases hA2 : jA = 2
            · subst hA2
              cases K <;> (
                go_wp2_with (first | (go_at_call 7; refine (HAW.out _).mono ?_; rintro e w90 ⟨rfl, hB90⟩) | fail)
                go_ret
                exact ⟨rfl, upB (upB HBW2.out hAx) hB90⟩)
            · have hA2b : (jA == 2) = false := by simpa using hA2
              go_wp2_with (first | (go_at_call 7; refine (HAW.out _).mono ?_; rintro e w90 ⟨rfl, hB90⟩) | fail)
              go_ret
              exact ⟨rfl, upB (upB HBW2.out hAx) hB90⟩
          · have hB2b : (jB == 2) = false := by simpa using hB2
            have hz1 := HZ1.out
            have hz2 := HZ2.out hB2
            by_cases hA2 : jA = 2
            · subst hA2
              cases K with
              | false =>
                clear hz1 hz2 HRC HAT
                go_wp2_with (first | (go_at_call 7; refine (HAW.out _).mono ?_; rintro e w90 ⟨rfl, hB90⟩) | fail)
                go_ret
                exact ⟨rfl, upB (upB HBW2.out hAx) hB90⟩
              | true =>
                cases L <;> cases R <;> (
                    simp at hz1 hz2
                    have HA1 := Lib.hid (fun V h => HRC.out V h 8205 _ (by decide) (by decide) hz1)
                    have HA2 := Lib.hid (fun V h => HRC.out V h 8204 _ (by decide) (by decide) hz2)
                    have HT1 := Lib.hid (fun V h => HAT.out V h 8204 (.inl rfl))
                    have HT2 := Lib.hid (fun V h => HAT.out V h 8205 (.inr rfl))
                    clear hz1 hz2 HRC HAT
                    go_wp2_with (first
                      | (go_at_call 12; refine (HA2.out _ hC1).mono ?_; rintro e w4 ⟨rfl, hC2⟩; have d2 := H3.out.go hC2)
                      | (go_at_call 12; refine (HA1.out _ hAx).mono ?_; rintro e w3 ⟨rfl, hC1⟩)
                      | (go_at_call 8; refine (HT2.out _ hC3).mono ?_; rintro e w6 ⟨rfl, hC4⟩)
                      | (go_at_call 8; refine (HT1.out _ hC2).mono ?_; rintro e w5 ⟨rfl, hC3⟩; have d3 := H3.out.go hC3)
                      | (go_at_call 7; refine (HAW.out _).mono ?_; rintro e w90 ⟨rfl, hB90⟩)
                      | fail)
                    go_ret
                    exact ⟨rfl, upB (upB HBW2.out hC4) hB90⟩)
            · have hA2b : (jA == 2) = false := by simpa using hA2
              cases K <;> cases L <;> cases R <;> (
                  simp at hz1 hz2
                  have HA1 := Lib.hid (fun V h => HRC.out V h 8205 _ (by decide) (by decide) hz1)
                  have HA2 := Lib.hid (fun V h => HRC.out V h 8204 _ (by decide) (by decide) hz2)
                  have HT1 := Lib.hid (fun V h => HAT.out V h 8204 (.inl rfl))
                  have HT2 := Lib.hid (fun V h => HAT.out V h 8205 (.inr rfl))
                  clear hz1 hz2 HRC HAT
                  go_wp2_with (first
                    | (go_at_call 12; refine (HA2.out _ hC1).mono ?_; rintro e w4 ⟨rfl, hC2⟩; have d2 := H3.out.go hC2)
                    | (go_at_call 12; refine (HA1.out _ hAx).mono ?_; rintro e w3 ⟨rfl, hC1⟩)
                    | (go_at_call 8; refine (HT2.out _ hC3).mono ?_; rintro e w6 ⟨rfl, hC4⟩)
                    | (go_at_call 8; refine (HT1.out _ hC2).mono ?_; rintro e w5 ⟨rfl, hC3⟩; have d3 := H3.out.go hC3)
                    | (go_at_call 7; refine (HAW.out _).mono ?_; rintro e w90 ⟨rfl, hB90⟩)
                    | fail)
                  go_ret
                  exact ⟨rfl, upB (upB HBW2.out hC4) hB90⟩)

/-! From the walk to the given statement. -/
set_option linter.unusedVariables false
theorem own : ownKnob Tryd.prog.godebug = none := by kernel_rfl
theorem laidOut : laidOutB Tryd.prog = true := by kernel_rfl
set_option maxRecDepth 100000 in
theorem lifted (os : Os) (started : os.Started) (H : Type) (enc : TypeId × Value → H) :
    ReturnsInHanded {} Tryd.checked os 5 .any (fun w args => (Rows.contextJoinsSpec.pre enc Tryd.prog Tryd.f5 [] false w args ∧ laidMetH Tryd.prog Rows.contextJoinsRow.laid w) ∧ sizedMet enc Tryd.prog Tryd.f5 (OpenSpec.ofChange Rows.contextJoinsSpec) false w args)
      (Rows.contextJoinsSpec.post enc Tryd.prog Tryd.f5 false true false false) := by
  refine returnsInHanded_of_change_and (C := Tryd.checked) (X := fun w _ => laidMetH Tryd.prog Rows.contextJoinsRow.laid w) (fun _ _ _ hh h => h.of_heap hh) own started (by kernel_rfl) Tryd.func5
    (ChangeSpec.witness_shaped (enc := enc) (C := Tryd.checked) (os := os) (X := fun w _ => laidMetH Tryd.prog Rows.contextJoinsRow.laid w) false (World.laidAll Tryd.prog os Rows.contextJoinsRow.laid) #[.int .i32 0, .int .i32 0, .int .u8 0, .int .u8 0] 8 (World.laidAll_os _ _ _)
      (World.shaped_of_ZipB (by kernel_rfl) (by kernel_rfl)) (by kernel_rfl) (by kernel_rfl) (by kernel_rfl)
      (by rw [MakeChecks.laidMetH_plain _ _ _ (by kernel_rfl)]; exact laidMet_laidAll _ (by kernel_rfl) (by kernel_rfl))) ?_
  intro W base args ds gs before hval0 hW _ _ hL _
  have hval : ∀ (j : Nat) t v, Tryd.f5.params[j]? = some t → args[j]? = some v → Value.okWide Tryd.prog W .any base t v := hval0
  have hW' := hW
  obtain ⟨p, q, hA0, hV, rfl, _, _⟩ := hW
  have hA : DataW.TrodAll enc Tryd.prog W 0 (fun _ => true) true Tryd.f5.params.toList args.toList ds p := hA0
  rw [Tryd.params5] at hA hval
  obtain ⟨v0, vs0, d0, ds0, p0, q0, hargs, rfl, rfl, h0, r0⟩ := trodAll_cons hA
  obtain ⟨v1, vs1, d1, ds1, p1, q1, rfl, rfl, rfl, h1, r1⟩ := trodAll_cons r0
  obtain ⟨v2, vs2, d2, ds2, p2, q2, rfl, rfl, rfl, h2, r2⟩ := trodAll_cons r1
  obtain ⟨v3, vs3, d3, ds3, p3, q3, rfl, rfl, rfl, h3, r3⟩ := trodAll_cons r2
  obtain ⟨rfl, rfl, rfl⟩ := trodAll_nil r3
  obtain rfl : args = #[v0, v1, v2, v3] := by cases args; simp_all
  obtain ⟨rfl, rfl⟩ := trodVars_none hV
  obtain ⟨a0, rfl, rfl, rfl, w0⟩ := open_int Tryd.underlying21 (hval 0 21 v0 rfl rfl) h0
  have b0 : -2147483648 ≤ a0 ∧ a0 ≤ 2147483647 := by simpa [Lit.wf, IntKind.min, IntKind.max, IntKind.signed, IntKind.bits] using w0
  obtain ⟨a1, rfl, rfl, rfl, w1⟩ := open_int Tryd.underlying21 (hval 1 21 v1 rfl rfl) h1
  have b1 : -2147483648 ≤ a1 ∧ a1 ≤ 2147483647 := by simpa [Lit.wf, IntKind.min, IntKind.max, IntKind.signed, IntKind.bits] using w1
  obtain ⟨a2, rfl, rfl, rfl, w2⟩ := open_int Tryd.underlying5 (hval 2 5 v2 rfl rfl) h2
  have b2 : 0 ≤ a2 ∧ a2 ≤ 255 := by simpa [Lit.wf, IntKind.min, IntKind.max, IntKind.signed, IntKind.bits] using w2
  obtain ⟨a3, rfl, rfl, rfl, w3⟩ := open_int Tryd.underlying5 (hval 3 5 v3 rfl rfl) h3
  have b3 : 0 ≤ a3 ∧ a3 ≤ 255 := by simpa [Lit.wf, IntKind.min, IntKind.max, IntKind.signed, IntKind.bits] using w3
  clear hA0 hval0
  refine (walk a0 a1 a2 a3 W b0.1 b0.2 b1.1 b1.2 b2.1 b2.2 b3.1 b3.2).mono fun e W' ⟨he, bel⟩ => ?_
  subst he
  exact ⟨_, rfl, _, _, _, [], _, [], hW', trodAll_mk1 (shut_bool Tryd.underlying4 _), (trodAll_cons_mk (shut_int Tryd.underlying21 w0) (trodAll_cons_mk (shut_int Tryd.underlying21 w1) (trodAll_cons_mk (shut_int Tryd.underlying5 w2) (trodAll_cons_mk (shut_int Tryd.underlying5 w3) trodAll_mk0)))), rfl, bel.frame _, fun h => by cases h⟩

theorem row_holds : Rows.ContextJoinsSaid :=
  OpenClaim.holds_of_wide 5 Tryd.f5 rfl rfl rfl rfl rfl rfl rfl ⟨rfl, rfl, rfl, rfl, rfl⟩ rfl rfl rfl rfl rfl (by kernel_rfl) Tryd.func5 (by kernel_rfl)
    (of_decide_eq_true (by kernel_rfl)) (by unfold Func.isWrapper; first | (rw [if_pos (by decide +kernel)]; kernel_rfl) | (rw [if_neg (by decide +kernel)]; exact ⟨rfl, rfl⟩))
    (fun os started H enc _ => lifted os started H enc)

theorem proved : Rows.ContextJoinsCardSaid :=
  Claim7.holds_tied_plain_at .later [] [.data, .data, .data, .data, .sentinel, .sentinel, .pinned] true (true, "557149538dbcd7314170ba4795fc53a2613e285518a0dbac65e85b853dd9bb05") true
    row_holds (fun _ h => by cases h) (by kernel_rfl) (fun _ h => by cases h) contextJoins_row_tie rfl ⟨rfl, rfl⟩ (by kernel_rfl) rfl
    (fun f fn hf hfn => by
      obtain rfl : f = 5 := Option.some.inj ((show Tryd.prog.funcNamed "fascia/fascialaw08.ContextJoins" = some 5 by kernel_rfl).symm.trans hf) |>.symm
      obtain rfl : fn = Tryd.f5 := (Option.some.inj (Tryd.func5.symm.trans hfn)).symm
      exact ⟨by kernel_rfl, fun j t ht => by
        rw [Tryd.params5] at ht
        have hm : t ∈ [21, 21, 5, 5] := by simpa using Array.mem_of_getElem? ht
        have hall : ([21, 21, 5, 5].all fun u => !Tryd.prog.wantsStandIn u) = true := by kernel_rfl
        exact (show Tryd.prog.wantsStandIn t = false by simpa using List.all_eq_true.1 hall t hm)⟩)
    (by kernel_rfl)
end Go.Proofs.YtmeihnhghdmjiaaDoor.contextJoins
