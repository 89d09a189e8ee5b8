/-
  fascialaw07: is, awake.
-/
import Derived.Test.YtenfdnnagijfnaaGreatDoorLabelB
import Derived.Laws.IdiomStrings
import Derived.Laws.RangeString
namespace Go.Proofs.YtenfdnnagijfnaaGreatDoor
open Go.RowKit Norm Remap

theorem conv_str (s : ByteArray) (l : List Int) (w : World) (h : Conv.runesFrom s s.size 0 #[] = (cl .i32 l).toArray) (hl : l.length ≤ 1000) :
    ∃ c, (convert 9 22 (.string s)).run Tryz.prog w = .ok (.slice (some ⟨w.heap.size, 0, none⟩) l.length c) (w.drew.alloc (.cells ((cl .i32 l).toArray ++ Array.replicate (c - l.length) (.int .i32 0)) 21)) := by
  have e : (Conv.runesFrom s s.size 0 #[]).size = l.length := by rw [h]; simp
  have := run_runes_of_string (P := Tryz.prog) w 9 22 21 s Tryz.underlying9 Tryz.underlying22 Tryz.underlying21 (by rw [e]; omega)
  rw [e, h] at this
  exact ⟨_, this⟩
theorem row_drew (w : World) (l : List Int) (k : Nat) : Row (w.drew.alloc (.cells ((cl .i32 l).toArray ++ Array.replicate k (.int .i32 0)) 21)) (w.drew.alloc (.cells ((cl .i32 l).toArray ++ Array.replicate k (.int .i32 0)) 21)).heap.size (some ⟨w.heap.size, 0, none⟩) (cl .i32 l) := by
  refine .inr ⟨w.heap.size, 0, rfl, by simp, fun i hi => ?_⟩
  have := cell_of_row (w.drew.alloc (.cells ((cl .i32 l).toArray ++ Array.replicate k (.int .i32 0)) 21)) w.heap.size (0 + i) ((cl .i32 l).toArray ++ Array.replicate k (.int .i32 0)) 21 (0, 0) (World.alloc_heap_new w.drew _)
  rw [this, Nat.zero_add, Array.getElem?_append_left (by simpa using hi), List.getElem?_toArray]
set_option maxRecDepth 100000 in
set_option maxHeartbeats 1000000 in
theorem is_any (s : ByteArray) (l : List Int) (ed : Bool) (x : Int) (w : World) (h : Conv.runesFrom s s.size 0 #[] = (cl .i32 l).toArray) (hl : l.length ≤ 1000) (hC : C32 l) (hx : chk l ed = x) : Calls Tryz.prog 54 #[.string s, .bool ed, .int .u8 x] w (IsB true w) := by
  obtain ⟨c, hcv⟩ := conv_str s l w h hl
  have hr := row_drew w l (c - l.length)
  have hB0 : Below w.heap.size w (w.drew.alloc (.cells ((cl .i32 l).toArray ++ Array.replicate (c - l.length) (.int .i32 0)) 21)) := (Below.refl _ w).drew.alloc (Nat.le_refl _) _
  obtain ⟨W, hW⟩ : ∃ W, w.drew.alloc (.cells ((cl .i32 l).toArray ++ Array.replicate (c - l.length) (.int .i32 0)) 21) = W := ⟨_, rfl⟩
  rw [hW] at hcv hr hB0
  have HC := Lib.hid (Check_any l ed _ _ c W rfl (by omega) hC hr)
  rw [hx] at HC
  clear h hr hW hx hC
  go_enter Tryz.func54, Tryz.ntmps54
  go_wp2_with (first | (go_at_call 27; refine HC.out.mono ?_; rintro e w1 ⟨rfl, hB1⟩) | fail)
  go_ret
  exact ⟨by first | rfl | simp, upB hB0 hB1⟩
theorem ex0 (w : World) : Calls Tryz.prog 54 #[.string { data := #[97, 45, 45, 98] }, .bool true, .int .u8 0] w (IsB true w) :=
  is_any _ [97, 45, 45, 98] true 0 w (by kernel_rfl) (by decide) (by decide) (by decide +kernel)
theorem ex1 (w : World) : Calls Tryz.prog 54 #[.string { data := #[97, 98, 45, 45, 99] }, .bool true, .int .u8 2] w (IsB true w) :=
  is_any _ [97, 98, 45, 45, 99] true 2 w (by kernel_rfl) (by decide) (by decide) (by decide +kernel)
theorem ex2 (w : World) : Calls Tryz.prog 54 #[.string { data := #[97, 98, 45, 45, 99] }, .bool false, .int .u8 0] w (IsB true w) :=
  is_any _ [97, 98, 45, 45, 99] false 0 w (by kernel_rfl) (by decide) (by decide) (by decide +kernel)
theorem ex3 (w : World) : Calls Tryz.prog 54 #[.string { data := #[204, 129, 97] }, .bool false, .int .u8 4] w (IsB true w) :=
  is_any _ [769, 97] false 4 w (by kernel_rfl) (by decide) (by decide) (by decide +kernel)
theorem ex4 (w : World) : Calls Tryz.prog 54 #[.string { data := #[97, 204, 129] }, .bool false, .int .u8 1] w (IsB true w) :=
  is_any _ [97, 769] false 1 w (by kernel_rfl) (by decide) (by decide) (by decide +kernel)
theorem ex5 (w : World) : Calls Tryz.prog 54 #[.string { data := #[195, 161] }, .bool true, .int .u8 0] w (IsB true w) :=
  is_any _ [225] true 0 w (by kernel_rfl) (by decide) (by decide) (by decide +kernel)
theorem ex6 (w : World) : Calls Tryz.prog 54 #[.string { data := #[65] }, .bool false, .int .u8 5] w (IsB true w) :=
  is_any _ [65] false 5 w (by kernel_rfl) (by decide) (by decide) (by decide +kernel)
theorem ex7 (w : World) : Calls Tryz.prog 54 #[.string { data := #[97, 46, 98] }, .bool true, .int .u8 6] w (IsB true w) :=
  is_any _ [97, 46, 98] true 6 w (by kernel_rfl) (by decide) (by decide) (by decide +kernel)
theorem ex8 (w : World) : Calls Tryz.prog 54 #[.string { data := #[45, 97] }, .bool true, .int .u8 3] w (IsB true w) :=
  is_any _ [45, 97] true 3 w (by kernel_rfl) (by decide) (by decide) (by decide +kernel)
theorem ex9 (w : World) : Calls Tryz.prog 54 #[.string { data := #[45, 97] }, .bool false, .int .u8 0] w (IsB true w) :=
  is_any _ [45, 97] false 0 w (by kernel_rfl) (by decide) (by decide) (by decide +kernel)
theorem ex10 (w : World) : Calls Tryz.prog 54 #[.string { data := #[] }, .bool true, .int .u8 15] w (IsB true w) :=
  is_any _ [] true 15 w (by kernel_rfl) (by decide) (by decide) (by decide +kernel)
set_option maxRecDepth 100000 in
set_option maxHeartbeats 2000000 in
theorem awake7_any (w : World) : Calls Tryz.prog 29 #[] w (IsB true w) := by
  have hW : Below w.heap.size w w := Below.refl _ _
  go_enter Tryz.func29, Tryz.ntmps29
  go_wp2_with fail
  refine (ex0 _).mono ?_
  rintro e w1 ⟨rfl, hB⟩
  have hW := upB hW hB
  clear hB
  go_wp2_with fail
  refine (ex1 _).mono ?_
  rintro e w2 ⟨rfl, hB⟩
  have hW := upB hW hB
  clear hB
  go_wp2_with fail
  refine (ex2 _).mono ?_
  rintro e w3 ⟨rfl, hB⟩
  have hW := upB hW hB
  clear hB
  go_wp2_with fail
  refine (ex3 _).mono ?_
  rintro e w4 ⟨rfl, hB⟩
  have hW := upB hW hB
  clear hB
  go_wp2_with fail
  refine (ex4 _).mono ?_
  rintro e w5 ⟨rfl, hB⟩
  have hW := upB hW hB
  clear hB
  go_wp2_with fail
  refine (ex5 _).mono ?_
  rintro e w6 ⟨rfl, hB⟩
  have hW := upB hW hB
  clear hB
  go_wp2_with fail
  refine (ex6 _).mono ?_
  rintro e w7 ⟨rfl, hB⟩
  have hW := upB hW hB
  clear hB
  go_wp2_with fail
  refine (ex7 _).mono ?_
  rintro e w8 ⟨rfl, hB⟩
  have hW := upB hW hB
  clear hB
  go_wp2_with fail
  refine (ex8 _).mono ?_
  rintro e w9 ⟨rfl, hB⟩
  have hW := upB hW hB
  clear hB
  go_wp2_with fail
  refine (ex9 _).mono ?_
  rintro e w10 ⟨rfl, hB⟩
  have hW := upB hW hB
  clear hB
  go_wp2_with fail
  refine (ex10 _).mono ?_
  rintro e w11 ⟨rfl, hB⟩
  have hW := upB hW hB
  clear hB
  go_wp2_with fail
  go_ret
  exact ⟨rfl, hW⟩
end Go.Proofs.YtenfdnnagijfnaaGreatDoor
