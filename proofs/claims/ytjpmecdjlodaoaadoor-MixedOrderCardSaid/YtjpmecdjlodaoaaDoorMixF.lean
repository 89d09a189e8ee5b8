/-
  fascialaw10: same, level, awake.
-/
import Derived.Test.YtjpmecdjlodaoaaDoorMixE
import Derived.Laws.BytesArg
import Derived.Laws.BytesString
namespace Go.Proofs.YtjpmecdjlodaoaaDoor.Mix
open Go.RowKit Ucd Rul

theorem conv8 {w : World} {B : Nat} {A : Option Addr} {xs : List Int} {n : Nat} (h : Row w B A (cl .u8 xs)) (hn : xs.length = n) (c : Nat) : (convert 24 9 (.slice A n c)).run Tryd.prog w = .ok (.string (strOfNums xs)) w := by
  rcases h with h | ⟨b, o, rfl, hb, hc⟩
  · obtain rfl : xs = [] := by simpa [cl] using h
    obtain rfl : n = 0 := hn.symm
    rw [run_convert_bytes_string w 24 9 5 _ 0 c Tryd.underlying24 Tryd.underlying5 Tryd.underlying9]
    cases A <;> simp [Conv.bytesToString, loadCells]
    all_goals rfl
  · refine run_convert_bytes_arg w 24 5 Tryd.underlying24 Tryd.underlying5 b o n c xs hn (fun i hi => ?_) 9 Tryd.underlying9
    rw [hc i (by rw [List.length_map]; omega), List.getElem?_map, List.getElem?_eq_getElem (by omega)]
    simp [List.getD, List.getElem?_eq_getElem (show i < xs.length by omega)]
def C8 (l : List Int) : Prop := ∀ x ∈ l, 0 ≤ x ∧ x ≤ 255
theorem str_inj {xs ys : List Int} (hx : C8 xs) (hy : C8 ys) (h : xs.map (fun n => UInt8.ofNat n.toNat) = ys.map (fun n => UInt8.ofNat n.toNat)) : xs = ys := by
  have hl : xs.length = ys.length := by simpa using congrArg List.length h
  refine List.ext_getElem hl fun i h1 h2 => ?_
  have e := congrArg (fun l => l[i]?) h
  simp only [List.getElem?_map, List.getElem?_eq_getElem h1, List.getElem?_eq_getElem h2, Option.map_some, Option.some.injEq] at e
  have e2 := congrArg UInt8.toNat e
  have b1 := hx _ (List.getElem_mem h1)
  have b2 := hy _ (List.getElem_mem h2)
  rw [UInt8.toNat_ofNat', UInt8.toNat_ofNat', Nat.mod_eq_of_lt (by omega), Nat.mod_eq_of_lt (by omega)] at e2
  omega
theorem str_same {xs ys : List Int} (hx : C8 xs) (hy : C8 ys) : ((strOfNums xs).toList == (strOfNums ys).toList) = decide (xs = ys) := by
  rw [ByteArray.toList_eq, ByteArray.toList_eq]
  show (xs.map (fun n => UInt8.ofNat n.toNat) == ys.map (fun n => UInt8.ofNat n.toNat)) = _
  by_cases h : xs = ys
  · subst h; simp
  · rw [decide_eq_false h]
    exact beq_eq_false_iff_ne.2 fun e => h (str_inj hx hy e)
set_option maxRecDepth 100000 in
set_option maxHeartbeats 1000000 in
theorem same_any (xs ys : List Int) (A1 : Option Addr) (n1 c1 : Nat) (A2 : Option Addr) (n2 c2 : Nat) (w : World) (hn1 : xs.length = n1) (hn2 : ys.length = n2) (h1 : Row w w.heap.size A1 (cl .u8 xs)) (h2 : Row w w.heap.size A2 (cl .u8 ys)) (hx : C8 xs) (hy : C8 ys) : Calls Tryd.prog 7 #[.slice A1 n1 c1, .slice A2 n2 c2] w (IsB (decide (xs = ys)) w) := by
  have k1 := conv8 h1 hn1 c1
  have k2 := conv8 h2 hn2 c2
  have HS := Lib.hid (str_same hx hy)
  generalize decide (xs = ys) = q at HS ⊢
  generalize strOfNums xs = s at k1 HS
  generalize strOfNums ys = t at k2 HS
  clear hn1 hn2 h1 h2 hx hy
  go_enter Tryd.func7, Tryd.ntmps7
  go_wp2_with fail
  go_ret
  exact ⟨by rw [← HS.out]; rfl, Below.refl _ _⟩
theorem row_new' (w : World) (xs : List Value) (t : TypeId) : Row (w.alloc (.cells xs.toArray t)) (w.alloc (.cells xs.toArray t)).heap.size (some ⟨w.heap.size, 0, none⟩) xs := by
  rw [World.size_alloc]
  exact row_new w _ t _ rfl
set_option maxRecDepth 100000 in
set_option maxHeartbeats 1000000 in
theorem level_lit (l : List Int) (x : Int) (W : World) (hl : l.length ≤ 1000) (hx : lev l = x) : Calls Tryd.prog 30 #[.int .u8 x, .slice (some ⟨W.heap.size, 0, none⟩) l.length l.length] (W.alloc (.cells (cl .i32 l).toArray 21)) (IsB true W) := by
  have HC := Lib.hid (Level_any l _ l.length l.length _ rfl (by omega) (row_new' W (cl .i32 l) 21))
  rw [hx] at HC
  have hW := upA W (.cells (cl .i32 l).toArray 21)
  generalize W.alloc (.cells (cl .i32 l).toArray 21) = W1 at HC hW ⊢
  generalize some (⟨W.heap.size, 0, none⟩ : Addr) = A at HC ⊢
  generalize l.length = n at HC ⊢
  clear hx hl
  go_enter Tryd.func30, Tryd.ntmps30
  go_wp2_with (first | (go_at_call 10; refine HC.out.mono ?_; rintro e w1 ⟨rfl, hB1⟩) | fail)
  go_ret
  exact ⟨by first | rfl | simp, upB hW hB1⟩
theorem check_lit (l : List Int) (x : Int) (W : World) (hl : l.length ≤ 1000) (hx : chk l = x) : Calls Tryd.prog 14 #[.slice (some ⟨W.heap.size, 0, none⟩) l.length l.length] (W.alloc (.cells (cl .i32 l).toArray 21)) (Tells (.int .u8 x) W) := by
  refine (Check_any l _ l.length l.length _ rfl (by omega) (row_new' W (cl .i32 l) 21)).mono ?_
  rintro e w' ⟨rfl, hB⟩
  rw [hx]
  exact ⟨rfl, upB (upA W _) hB⟩
theorem scripts_lit (l xs : List Int) (W : World) (hl : l.length ≤ 1000) (hx : scripts l = xs) : Calls Tryd.prog 8 #[.slice (some ⟨W.heap.size, 0, none⟩) l.length l.length] (W.alloc (.cells (cl .i32 l).toArray 21)) (Row8 xs W) := by
  refine (Scripts_any l _ l.length l.length _ rfl (by omega) (row_new' W (cl .i32 l) 21)).mono ?_
  rintro e w' ⟨A, c, rfl, hr, hB⟩
  rw [hx] at hr ⊢
  exact ⟨A, c, rfl, hr, upB (upA W _) hB⟩
theorem ex0 (W : World) : Calls Tryd.prog 30 #[.int .u8 1, .slice (some ⟨W.heap.size, 0, none⟩) 2 2] (W.alloc (.cells #[.int .i32 97, .int .i32 49] 21)) (IsB true W) :=
  level_lit [97, 49] 1 W (by decide) (by decide +kernel)
theorem ex1 (W : World) : Calls Tryd.prog 30 #[.int .u8 2, .slice (some ⟨W.heap.size, 0, none⟩) 1 1] (W.alloc (.cells #[.int .i32 233] 21)) (IsB true W) :=
  level_lit [233] 2 W (by decide) (by decide +kernel)
theorem ex2 (W : World) : Calls Tryd.prog 30 #[.int .u8 4, .slice (some ⟨W.heap.size, 0, none⟩) 2 2] (W.alloc (.cells #[.int .i32 97, .int .i32 1072] 21)) (IsB true W) :=
  level_lit [97, 1072] 4 W (by decide) (by decide +kernel)
theorem ex3 (W : World) : Calls Tryd.prog 14 #[.slice (some ⟨W.heap.size, 0, none⟩) 2 2] (W.alloc (.cells #[.int .i32 97, .int .i32 1072] 21)) (Tells (.int .u8 13) W) :=
  check_lit [97, 1072] 13 W (by decide) (by decide +kernel)
theorem ex4 (W : World) : Calls Tryd.prog 30 #[.int .u8 2, .slice (some ⟨W.heap.size, 0, none⟩) 2 2] (W.alloc (.cells #[.int .i32 12354, .int .i32 19968] 21)) (IsB true W) :=
  level_lit [12354, 19968] 2 W (by decide) (by decide +kernel)
theorem ex5 (W : World) : Calls Tryd.prog 30 #[.int .u8 3, .slice (some ⟨W.heap.size, 0, none⟩) 3 3] (W.alloc (.cells #[.int .i32 97, .int .i32 12354, .int .i32 19968] 21)) (IsB true W) :=
  level_lit [97, 12354, 19968] 3 W (by decide) (by decide +kernel)
theorem ex6 (W : World) : Calls Tryd.prog 30 #[.int .u8 4, .slice (some ⟨W.heap.size, 0, none⟩) 2 2] (W.alloc (.cells #[.int .i32 44032, .int .i32 12354] 21)) (IsB true W) :=
  level_lit [44032, 12354] 4 W (by decide) (by decide +kernel)
theorem ex7 (W : World) : Calls Tryd.prog 30 #[.int .u8 3, .slice (some ⟨W.heap.size, 0, none⟩) 3 3] (W.alloc (.cells #[.int .i32 44032, .int .i32 19968, .int .i32 97] 21)) (IsB true W) :=
  level_lit [44032, 19968, 97] 3 W (by decide) (by decide +kernel)
theorem ex8 (W : World) : Calls Tryd.prog 30 #[.int .u8 2, .slice (some ⟨W.heap.size, 0, none⟩) 2 2] (W.alloc (.cells #[.int .i32 945, .int .i32 49] 21)) (IsB true W) :=
  level_lit [945, 49] 2 W (by decide) (by decide +kernel)
theorem ex9 (W : World) : Calls Tryd.prog 14 #[.slice (some ⟨W.heap.size, 0, none⟩) 2 2] (W.alloc (.cells #[.int .i32 49, .int .i32 1633] 21)) (Tells (.int .u8 14) W) :=
  check_lit [49, 1633] 14 W (by decide) (by decide +kernel)
theorem ex10 (W : World) : Calls Tryd.prog 8 #[.slice (some ⟨W.heap.size, 0, none⟩) 3 3] (W.alloc (.cells #[.int .i32 1072, .int .i32 97, .int .i32 49] 21)) (Row8 [2, 4] W) :=
  scripts_lit [1072, 97, 49] [2, 4] W (by decide) (by decide +kernel)
set_option maxRecDepth 100000 in
set_option maxHeartbeats 4000000 in
theorem awake10_any (w : World) : Calls Tryd.prog 16 #[] w (IsB true w) := by
  have hW : Below w.heap.size w w := Below.refl _ _
  go_enter Tryd.func16, Tryd.ntmps16
  go_wp2_with fail
  refine (ex0 _).mono ?_
  rintro e w1 ⟨rfl, hB⟩
  have hW := upB hW hB
  clear hB
  go_wp2_with fail
  refine (ex1 _).mono ?_
  rintro e w2 ⟨rfl, hB⟩
  have hW := upB hW hB
  clear hB
  go_wp2_with fail
  refine (ex2 _).mono ?_
  rintro e w3 ⟨rfl, hB⟩
  have hW := upB hW hB
  clear hB
  go_wp2_with fail
  refine (ex3 _).mono ?_
  rintro e w4 ⟨rfl, hB⟩
  have hW := upB hW hB
  clear hB
  go_wp2_with fail
  refine (ex4 _).mono ?_
  rintro e w5 ⟨rfl, hB⟩
  have hW := upB hW hB
  clear hB
  go_wp2_with fail
  refine (ex5 _).mono ?_
  rintro e w6 ⟨rfl, hB⟩
  have hW := upB hW hB
  clear hB
  go_wp2_with fail
  refine (ex6 _).mono ?_
  rintro e w7 ⟨rfl, hB⟩
  have hW := upB hW hB
  clear hB
  go_wp2_with fail
  refine (ex7 _).mono ?_
  rintro e w8 ⟨rfl, hB⟩
  have hW := upB hW hB
  clear hB
  go_wp2_with fail
  refine (ex8 _).mono ?_
  rintro e w9 ⟨rfl, hB⟩
  have hW := upB hW hB
  clear hB
  go_wp2_with fail
  refine (ex9 _).mono ?_
  rintro e w10 ⟨rfl, hB⟩
  have hW := upB hW hB
  clear hB
  go_wp2_with fail
  refine (ex10 _).mono ?_
  rintro e w11 ⟨A, c, rfl, hr, hB⟩
  have hW := upB hW hB
  clear hB
  go_wp2_with fail
  refine (same_any [2, 4] [2, 4] _ 2 _ _ 2 _ _ rfl rfl (upR hr (upA _ _)) (row_new' w11 (cl .u8 [2, 4]) 5) (by unfold C8; decide) (by unfold C8; decide)).mono ?_
  rintro e w12 ⟨rfl, hB⟩
  have hW := upB hW (upB (upA _ _) hB)
  go_wp2_with fail
  go_ret
  exact ⟨rfl, hW⟩
end Go.Proofs.YtjpmecdjlodaoaaDoor.Mix
