/-
  fascialaw09: fails, awake.
-/
import Derived.Test.YtnmijmhgmcapcaaDoorRulF
namespace Go.Proofs.YtnmijmhgmcapcaaDoor.Rul
open Go.RowKit Ucd

theorem row_new' (w : World) (xs : List Value) (t : TypeId) : Row (w.alloc (.cells xs.toArray t)) (w.alloc (.cells xs.toArray t)).heap.size (some ⟨w.heap.size, 0, none⟩) xs := by
  refine .inr ⟨w.heap.size, 0, rfl, by show _ < (w.heap.push _).size; simp, fun i hi => ?_⟩
  have := cell_of_row (w.alloc (.cells xs.toArray t)) w.heap.size (0 + i) xs.toArray t (0, 0) (World.alloc_heap_new w _)
  rw [this, Nat.zero_add, List.getElem?_toArray]
set_option maxRecDepth 100000 in
set_option maxHeartbeats 1000000 in
theorem fails_lit (l : List Int) (x : Int) (W : World) (hl : l.length ≤ 1000) (hx : chk l = x) : Calls Tryd.prog 25 #[.int .u8 x, .slice (some ⟨W.heap.size, 0, none⟩) l.length l.length] (W.alloc (.cells (cl .i32 l).toArray 21)) (IsB true W) := by
  have HC := Lib.hid (Check_any l _ l.length l.length _ rfl (by omega) (row_new' W (cl .i32 l) 21))
  rw [hx] at HC
  have hW := upA W (.cells (cl .i32 l).toArray 21)
  generalize W.alloc (.cells (cl .i32 l).toArray 21) = W1 at HC hW ⊢
  generalize some (⟨W.heap.size, 0, none⟩ : Addr) = A at HC ⊢
  generalize l.length = n at HC ⊢
  clear hx hl
  go_enter Tryd.func25, Tryd.ntmps25
  go_wp2_with (first | (go_at_call 10; refine HC.out.mono ?_; rintro e w1 ⟨rfl, hB1⟩) | fail)
  go_ret
  exact ⟨by first | rfl | simp, upB hW hB1⟩
theorem bidi_lit (l : List Int) (x : Bool) (W : World) (hl : l.length ≤ 1000) (hx : bid l = x) : Calls Tryd.prog 8 #[.slice (some ⟨W.heap.size, 0, none⟩) l.length l.length] (W.alloc (.cells (cl .i32 l).toArray 21)) (IsB x W) := by
  refine (Bidi_any l _ l.length l.length _ rfl (by omega) (row_new' W (cl .i32 l) 21)).mono ?_
  rintro e w' ⟨rfl, hB⟩
  rw [hx]
  exact ⟨rfl, upB (upA W _) hB⟩
theorem ex0 (W : World) : Calls Tryd.prog 25 #[.int .u8 0, .slice (some ⟨W.heap.size, 0, none⟩) 2 2] (W.alloc (.cells #[.int .i32 1488, .int .i32 49] 21)) (IsB true W) :=
  fails_lit [1488, 49] 0 W (by decide) (by decide +kernel)
theorem ex1 (W : World) : Calls Tryd.prog 25 #[.int .u8 10, .slice (some ⟨W.heap.size, 0, none⟩) 2 2] (W.alloc (.cells #[.int .i32 1488, .int .i32 97] 21)) (IsB true W) :=
  fails_lit [1488, 97] 10 W (by decide) (by decide +kernel)
theorem ex2 (W : World) : Calls Tryd.prog 25 #[.int .u8 11, .slice (some ⟨W.heap.size, 0, none⟩) 2 2] (W.alloc (.cells #[.int .i32 1488, .int .i32 45] 21)) (IsB true W) :=
  fails_lit [1488, 45] 11 W (by decide) (by decide +kernel)
theorem ex3 (W : World) : Calls Tryd.prog 25 #[.int .u8 12, .slice (some ⟨W.heap.size, 0, none⟩) 3 3] (W.alloc (.cells #[.int .i32 1575, .int .i32 49, .int .i32 1633] 21)) (IsB true W) :=
  fails_lit [1575, 49, 1633] 12 W (by decide) (by decide +kernel)
theorem ex4 (W : World) : Calls Tryd.prog 25 #[.int .u8 9, .slice (some ⟨W.heap.size, 0, none⟩) 2 2] (W.alloc (.cells #[.int .i32 49, .int .i32 1488] 21)) (IsB true W) :=
  fails_lit [49, 1488] 9 W (by decide) (by decide +kernel)
theorem ex5 (W : World) : Calls Tryd.prog 25 #[.int .u8 0, .slice (some ⟨W.heap.size, 0, none⟩) 2 2] (W.alloc (.cells #[.int .i32 97, .int .i32 49] 21)) (IsB true W) :=
  fails_lit [97, 49] 0 W (by decide) (by decide +kernel)
theorem ex6 (W : World) : Calls Tryd.prog 25 #[.int .u8 11, .slice (some ⟨W.heap.size, 0, none⟩) 2 2] (W.alloc (.cells #[.int .i32 97, .int .i32 45] 21)) (IsB true W) :=
  fails_lit [97, 45] 11 W (by decide) (by decide +kernel)
theorem ex7 (W : World) : Calls Tryd.prog 25 #[.int .u8 10, .slice (some ⟨W.heap.size, 0, none⟩) 2 2] (W.alloc (.cells #[.int .i32 97, .int .i32 1488] 21)) (IsB true W) :=
  fails_lit [97, 1488] 10 W (by decide) (by decide +kernel)
theorem ex8 (W : World) : Calls Tryd.prog 25 #[.int .u8 0, .slice (some ⟨W.heap.size, 0, none⟩) 2 2] (W.alloc (.cells #[.int .i32 1488, .int .i32 1463] 21)) (IsB true W) :=
  fails_lit [1488, 1463] 0 W (by decide) (by decide +kernel)
theorem ex9 (W : World) : Calls Tryd.prog 8 #[.slice (some ⟨W.heap.size, 0, none⟩) 1 1] (W.alloc (.cells #[.int .i32 1633] 21)) (IsB true W) :=
  bidi_lit [1633] true W (by decide) (by decide +kernel)
theorem ex10 (W : World) : Calls Tryd.prog 8 #[.slice (some ⟨W.heap.size, 0, none⟩) 2 2] (W.alloc (.cells #[.int .i32 97, .int .i32 49] 21)) (IsB false W) :=
  bidi_lit [97, 49] false W (by decide) (by decide +kernel)
set_option maxRecDepth 100000 in
set_option maxHeartbeats 4000000 in
theorem awake9_any (w : World) : Calls Tryd.prog 12 #[] w (IsB true w) := by
  have hW : Below w.heap.size w w := Below.refl _ _
  go_enter Tryd.func12, Tryd.ntmps12
  go_wp2_with fail
  refine (ex0 _).mono ?_
  rintro e w1 ⟨rfl, hB⟩
  have hW := upB hW hB
  clear hB
  go_wp2_with fail
  refine (ex1 _).mono ?_
  rintro e w2 ⟨rfl, hB⟩
  have hW := upB hW hB
  clear hB
  go_wp2_with fail
  refine (ex2 _).mono ?_
  rintro e w3 ⟨rfl, hB⟩
  have hW := upB hW hB
  clear hB
  go_wp2_with fail
  refine (ex3 _).mono ?_
  rintro e w4 ⟨rfl, hB⟩
  have hW := upB hW hB
  clear hB
  go_wp2_with fail
  refine (ex4 _).mono ?_
  rintro e w5 ⟨rfl, hB⟩
  have hW := upB hW hB
  clear hB
  go_wp2_with fail
  refine (ex5 _).mono ?_
  rintro e w6 ⟨rfl, hB⟩
  have hW := upB hW hB
  clear hB
  go_wp2_with fail
  refine (ex6 _).mono ?_
  rintro e w7 ⟨rfl, hB⟩
  have hW := upB hW hB
  clear hB
  go_wp2_with fail
  refine (ex7 _).mono ?_
  rintro e w8 ⟨rfl, hB⟩
  have hW := upB hW hB
  clear hB
  go_wp2_with fail
  refine (ex8 _).mono ?_
  rintro e w9 ⟨rfl, hB⟩
  have hW := upB hW hB
  clear hB
  go_wp2_with fail
  refine (ex9 _).mono ?_
  rintro e w10 ⟨rfl, hB⟩
  have hW := upB hW hB
  clear hB
  go_wp2_with fail
  refine (ex10 _).mono ?_
  rintro e w11 ⟨rfl, hB⟩
  have hW := upB hW hB
  clear hB
  go_wp2_with fail
  go_ret
  exact ⟨rfl, hW⟩
end Go.Proofs.YtnmijmhgmcapcaaDoor.Rul
