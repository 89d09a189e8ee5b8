/-
  fascialaw08: fails, awake.
-/
import Derived.Test.YtmeihnhghdmjiaaGreatDoorCtxG
namespace Go.Proofs.YtmeihnhghdmjiaaGreatDoor.Ctx
open Go.RowKit Ucd

theorem row_new (w : World) (xs : List Value) (t : TypeId) : Row (w.alloc (.cells xs.toArray t)) (w.alloc (.cells xs.toArray t)).heap.size (some ⟨w.heap.size, 0, none⟩) xs := by
  refine .inr ⟨w.heap.size, 0, rfl, by show _ < (w.heap.push _).size; simp, fun i hi => ?_⟩
  have := cell_of_row (w.alloc (.cells xs.toArray t)) w.heap.size (0 + i) xs.toArray t (0, 0) (alloc_new w _)
  rw [this, Nat.zero_add, List.getElem?_toArray]
def TrueB (W : World) (e : Ending) (w' : World) : Prop := e = .returned (.bool true) ∧ Below W.heap.size W w'
def TellsB (v : Value) (W : World) (e : Ending) (w' : World) : Prop := e = .returned v ∧ Below W.heap.size W w'
set_option maxRecDepth 100000 in
set_option maxHeartbeats 1000000 in
theorem fails_lit (l : List Int) (x : Int) (W : World) (hl : l.length ≤ 1000) (hC : C32 l) (hx : chkC l = x) : Calls Tryz.prog 9 #[.int .u8 x, .slice (some ⟨W.heap.size, 0, none⟩) l.length l.length] (W.alloc (.cells (cl .i32 l).toArray 21)) (TrueB W) := by
  have HC := Lib.hid (Check_any l _ l.length l.length _ rfl (by omega) hC (row_new W (cl .i32 l) 21))
  rw [hx] at HC
  have hW := upA W (.cells (cl .i32 l).toArray 21)
  generalize W.alloc (.cells (cl .i32 l).toArray 21) = W1 at HC hW ⊢
  generalize some (⟨W.heap.size, 0, none⟩ : Addr) = A at HC ⊢
  generalize l.length = n at HC ⊢
  clear hx hC hl
  go_enter Tryz.func9, Tryz.ntmps9
  go_wp2_with (first | (go_at_call 7; refine HC.out.mono ?_; rintro e w1 ⟨rfl, hB1⟩) | fail)
  go_ret
  exact ⟨by first | rfl | simp, upB hW hB1⟩
theorem at_lit (l : List Int) (i : Nat) (x : Int) (W : World) (hl : l.length ≤ 1000) (hi : i < l.length) (hC : C32 l) (hx : atC l i = x) : Calls Tryz.prog 5 #[.slice (some ⟨W.heap.size, 0, none⟩) l.length l.length, .int .i64 (i : Int)] (W.alloc (.cells (cl .i32 l).toArray 21)) (TellsB (.int .u8 x) W) := by
  refine (At_any l i _ l.length l.length _ rfl hi (by omega) hC (row_new W (cl .i32 l) 21)).mono ?_
  rintro e w' ⟨rfl, hB⟩
  rw [hx]
  exact ⟨rfl, upB (upA W _) hB⟩
theorem ex0 (W : World) : Calls Tryz.prog 9 #[.int .u8 0, .slice (some ⟨W.heap.size, 0, none⟩) 3 3] (W.alloc (.cells #[.int .i32 2325, .int .i32 2381, .int .i32 8205] 21)) (TrueB W) :=
  fails_lit [2325, 2381, 8205] 0 W (by decide) (by unfold C32; decide) (by decide +kernel)
theorem ex1 (W : World) : Calls Tryz.prog 9 #[.int .u8 7, .slice (some ⟨W.heap.size, 0, none⟩) 2 2] (W.alloc (.cells #[.int .i32 2325, .int .i32 8205] 21)) (TrueB W) :=
  fails_lit [2325, 8205] 7 W (by decide) (by unfold C32; decide) (by decide +kernel)
theorem ex2 (W : World) : Calls Tryz.prog 5 #[.slice (some ⟨W.heap.size, 0, none⟩) 2 2, .int .i64 1] (W.alloc (.cells #[.int .i32 2325, .int .i32 8205] 21)) (TellsB (.int .u8 7) W) :=
  at_lit [2325, 8205] 1 7 W (by decide) (by decide) (by unfold C32; decide) (by decide +kernel)
theorem ex3 (W : World) : Calls Tryz.prog 9 #[.int .u8 0, .slice (some ⟨W.heap.size, 0, none⟩) 3 3] (W.alloc (.cells #[.int .i32 1576, .int .i32 8204, .int .i32 1576] 21)) (TrueB W) :=
  fails_lit [1576, 8204, 1576] 0 W (by decide) (by unfold C32; decide) (by decide +kernel)
theorem ex4 (W : World) : Calls Tryz.prog 9 #[.int .u8 7, .slice (some ⟨W.heap.size, 0, none⟩) 3 3] (W.alloc (.cells #[.int .i32 1575, .int .i32 8204, .int .i32 1576] 21)) (TrueB W) :=
  fails_lit [1575, 8204, 1576] 7 W (by decide) (by unfold C32; decide) (by decide +kernel)
theorem ex5 (W : World) : Calls Tryz.prog 9 #[.int .u8 0, .slice (some ⟨W.heap.size, 0, none⟩) 3 3] (W.alloc (.cells #[.int .i32 108, .int .i32 183, .int .i32 108] 21)) (TrueB W) :=
  fails_lit [108, 183, 108] 0 W (by decide) (by unfold C32; decide) (by decide +kernel)
theorem ex6 (W : World) : Calls Tryz.prog 9 #[.int .u8 8, .slice (some ⟨W.heap.size, 0, none⟩) 3 3] (W.alloc (.cells #[.int .i32 97, .int .i32 183, .int .i32 108] 21)) (TrueB W) :=
  fails_lit [97, 183, 108] 8 W (by decide) (by unfold C32; decide) (by decide +kernel)
theorem ex7 (W : World) : Calls Tryz.prog 9 #[.int .u8 0, .slice (some ⟨W.heap.size, 0, none⟩) 2 2] (W.alloc (.cells #[.int .i32 885, .int .i32 945] 21)) (TrueB W) :=
  fails_lit [885, 945] 0 W (by decide) (by unfold C32; decide) (by decide +kernel)
theorem ex8 (W : World) : Calls Tryz.prog 9 #[.int .u8 0, .slice (some ⟨W.heap.size, 0, none⟩) 2 2] (W.alloc (.cells #[.int .i32 1488, .int .i32 1523] 21)) (TrueB W) :=
  fails_lit [1488, 1523] 0 W (by decide) (by unfold C32; decide) (by decide +kernel)
theorem ex9 (W : World) : Calls Tryz.prog 9 #[.int .u8 8, .slice (some ⟨W.heap.size, 0, none⟩) 1 1] (W.alloc (.cells #[.int .i32 1523] 21)) (TrueB W) :=
  fails_lit [1523] 8 W (by decide) (by unfold C32; decide) (by decide +kernel)
theorem ex10 (W : World) : Calls Tryz.prog 9 #[.int .u8 0, .slice (some ⟨W.heap.size, 0, none⟩) 2 2] (W.alloc (.cells #[.int .i32 12539, .int .i32 12450] 21)) (TrueB W) :=
  fails_lit [12539, 12450] 0 W (by decide) (by unfold C32; decide) (by decide +kernel)
theorem ex11 (W : World) : Calls Tryz.prog 9 #[.int .u8 8, .slice (some ⟨W.heap.size, 0, none⟩) 2 2] (W.alloc (.cells #[.int .i32 12539, .int .i32 97] 21)) (TrueB W) :=
  fails_lit [12539, 97] 8 W (by decide) (by unfold C32; decide) (by decide +kernel)
theorem ex12 (W : World) : Calls Tryz.prog 5 #[.slice (some ⟨W.heap.size, 0, none⟩) 2 2, .int .i64 0] (W.alloc (.cells #[.int .i32 1633, .int .i32 1777] 21)) (TellsB (.int .u8 8) W) :=
  at_lit [1633, 1777] 0 8 W (by decide) (by decide) (by unfold C32; decide) (by decide +kernel)
theorem ex13 (W : World) : Calls Tryz.prog 5 #[.slice (some ⟨W.heap.size, 0, none⟩) 2 2, .int .i64 1] (W.alloc (.cells #[.int .i32 1633, .int .i32 1777] 21)) (TellsB (.int .u8 8) W) :=
  at_lit [1633, 1777] 1 8 W (by decide) (by decide) (by unfold C32; decide) (by decide +kernel)
set_option maxRecDepth 100000 in
set_option maxHeartbeats 4000000 in
theorem awake8_any (w : World) : Calls Tryz.prog 4 #[] w (IsB true w) := by
  have hW : Below w.heap.size w w := Below.refl _ _
  go_enter Tryz.func4, Tryz.ntmps4
  go_wp2_with fail
  refine (ex0 _).mono ?_
  rintro e w1 ⟨rfl, hB⟩
  have hW := upB hW hB
  clear hB
  go_wp2_with fail
  refine (ex1 _).mono ?_
  rintro e w2 ⟨rfl, hB⟩
  have hW := upB hW hB
  clear hB
  go_wp2_with fail
  refine (ex2 _).mono ?_
  rintro e w3 ⟨rfl, hB⟩
  have hW := upB hW hB
  clear hB
  go_wp2_with fail
  refine (ex3 _).mono ?_
  rintro e w4 ⟨rfl, hB⟩
  have hW := upB hW hB
  clear hB
  go_wp2_with fail
  refine (ex4 _).mono ?_
  rintro e w5 ⟨rfl, hB⟩
  have hW := upB hW hB
  clear hB
  go_wp2_with fail
  refine (ex5 _).mono ?_
  rintro e w6 ⟨rfl, hB⟩
  have hW := upB hW hB
  clear hB
  go_wp2_with fail
  refine (ex6 _).mono ?_
  rintro e w7 ⟨rfl, hB⟩
  have hW := upB hW hB
  clear hB
  go_wp2_with fail
  refine (ex7 _).mono ?_
  rintro e w8 ⟨rfl, hB⟩
  have hW := upB hW hB
  clear hB
  go_wp2_with fail
  refine (ex8 _).mono ?_
  rintro e w9 ⟨rfl, hB⟩
  have hW := upB hW hB
  clear hB
  go_wp2_with fail
  refine (ex9 _).mono ?_
  rintro e w10 ⟨rfl, hB⟩
  have hW := upB hW hB
  clear hB
  go_wp2_with fail
  refine (ex10 _).mono ?_
  rintro e w11 ⟨rfl, hB⟩
  have hW := upB hW hB
  clear hB
  go_wp2_with fail
  refine (ex11 _).mono ?_
  rintro e w12 ⟨rfl, hB⟩
  have hW := upB hW hB
  clear hB
  go_wp2_with fail
  refine (ex12 _).mono ?_
  rintro e w13 ⟨rfl, hB⟩
  have hW := upB hW hB
  clear hB
  go_wp2_with fail
  refine (ex13 _).mono ?_
  rintro e w14 ⟨rfl, hB⟩
  have hW := upB hW hB
  clear hB
  go_wp2_with fail
  go_ret
  exact ⟨rfl, hW⟩
end Go.Proofs.YtmeihnhghdmjiaaGreatDoor.Ctx
