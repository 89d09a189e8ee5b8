/-
  fascialaw10.MixedPairs: blocks of nine cells, made and written in whatever order.
-/
import Derived.Test.YtjpmecdjlodaoaaDoorMixG
namespace Go.Proofs.YtjpmecdjlodaoaaDoor.Mix
open Go.RowKit Ucd Rul

/-- a block of nine cells, whatever they hold -/
def Nine (w : World) (X : Nat) : Prop := ∃ a : Array Value, a.size = 9 ∧ w.heap[X]? = some (.cells a 37 (0, 0))
theorem nine_new {w : World} {X : Nat} {a : Array Value} (ha : a.size = 9) (h : w.heap.size = X) : Nine (w.alloc (.cells a 37)) X := ⟨a, ha, by rw [← h]; exact World.alloc_heap_new w _⟩
theorem kept {w : World} {X : Nat} {o o' : Obj} (h : w.heap[X]? = some o') : (w.alloc o).heap[X]? = some o' := by
  have hX : X < w.heap.size := (Array.getElem?_eq_some_iff.1 h).1
  exact (((Below.refl _ w).alloc (Nat.le_refl _) o).block X hX).trans h
theorem nine_kept {w : World} {X : Nat} {o : Obj} (h : Nine w X) : Nine (w.alloc o) X := by
  obtain ⟨a, ha, hh⟩ := h
  exact ⟨a, ha, kept hh⟩
theorem nine_set {w : World} {X Y k : Nat} {v : Value} (h : Nine w X) : Nine (w.setCell ⟨Y, k, none⟩ v) X := by
  obtain ⟨a, ha, hh⟩ := h
  by_cases e : X = Y
  · subst e
    refine ⟨a.setIfInBounds k v, by simpa using ha, ?_⟩
    simp [World.setCell, Array.getElem?_modify, hh]
  · exact ⟨a, ha, (Below.heap_setCell _ _ _ _ e).trans hh⟩
theorem far1 {w : World} {X Y k : Nat} {v : Value} {o : Obj} (hne : X ≠ Y) (h : w.heap[X]? = some o) : (w.setCell ⟨Y, k, none⟩ v).heap[X]? = some o := (Below.heap_setCell _ _ _ _ hne).trans h
theorem same9 {w : World} {X : Nat} {x0 x1 x2 x3 x4 x5 x6 x7 x8 : Value} (h : Nine w X) : (((((((((w.setCell ⟨X, 0, none⟩ x0).setCell ⟨X, 1, none⟩ x1).setCell ⟨X, 2, none⟩ x2).setCell ⟨X, 3, none⟩ x3).setCell ⟨X, 4, none⟩ x4).setCell ⟨X, 5, none⟩ x5).setCell ⟨X, 6, none⟩ x6).setCell ⟨X, 7, none⟩ x7).setCell ⟨X, 8, none⟩ x8).heap[X]? = some (.cells #[x0, x1, x2, x3, x4, x5, x6, x7, x8] 37 (0, 0)) := by
  obtain ⟨a, ha, hh⟩ := h
  have e : a.toList.length = 9 := by simpa using ha
  match hq : a.toList, e with
  | [a0, a1, a2, a3, a4, a5, a6, a7, a8], _ =>
    have : a = #[a0, a1, a2, a3, a4, a5, a6, a7, a8] := by rw [← hq]
    subst this
    simp [World.setCell, Array.getElem?_modify, hh]
theorem up_alloc {w0 W : World} {o : Obj} (h : Below w0.heap.size w0 W) : Below w0.heap.size w0 (W.alloc o) := h.alloc h.size o
theorem up_set {w0 W : World} {X k : Nat} {u : Value} (h : Below w0.heap.size w0 W) (hX : w0.heap.size ≤ X) : Below w0.heap.size w0 (W.setCell ⟨X, k, none⟩ u) := h.setCell hX u
theorem up_drew {w0 W : World} (h : Below w0.heap.size w0 W) : Below w0.heap.size w0 W.drew := h.drew
theorem size_set (w : World) (X k : Nat) (v : Value) : (w.setCell ⟨X, k, none⟩ v).heap.size = w.heap.size := by simp [World.setCell]
/-- rows of the table as cells -/
def TabS (gt i j k : Nat) (w : World) : Prop := w.cell? ⟨gt, i * 9, none⟩ = some (.int .i32 (fr i)) ∧ w.cell? ⟨gt, i * 9 + 1, none⟩ = some (.int .i32 (Ucd.to i)) ∧ w.cell? ⟨gt, i * 9 + 2, none⟩ = some (.int .u8 (g (pr i) 0)) ∧ w.cell? ⟨gt, i * 9 + 3, none⟩ = some (.int .u8 (g (pr i) 1)) ∧ w.cell? ⟨gt, i * 9 + 4, none⟩ = some (.int .u8 (g (pr i) 2)) ∧ w.cell? ⟨gt, i * 9 + 5, none⟩ = some (.int .u8 (g (pr i) 3)) ∧ w.cell? ⟨gt, i * 9 + 6, none⟩ = some (.int .u8 (g (pr i) 4)) ∧ w.cell? ⟨gt, i * 9 + 7, none⟩ = some (.int .u8 (g (pr i) 5)) ∧ w.cell? ⟨gt, i * 9 + 8, none⟩ = some (.int .u8 (g (pr i) 6)) ∧ w.cell? ⟨gt, j * 9, none⟩ = some (.int .i32 (fr j)) ∧ w.cell? ⟨gt, j * 9 + 1, none⟩ = some (.int .i32 (Ucd.to j)) ∧ w.cell? ⟨gt, j * 9 + 2, none⟩ = some (.int .u8 (g (pr j) 0)) ∧ w.cell? ⟨gt, j * 9 + 3, none⟩ = some (.int .u8 (g (pr j) 1)) ∧ w.cell? ⟨gt, j * 9 + 4, none⟩ = some (.int .u8 (g (pr j) 2)) ∧ w.cell? ⟨gt, j * 9 + 5, none⟩ = some (.int .u8 (g (pr j) 3)) ∧ w.cell? ⟨gt, j * 9 + 6, none⟩ = some (.int .u8 (g (pr j) 4)) ∧ w.cell? ⟨gt, j * 9 + 7, none⟩ = some (.int .u8 (g (pr j) 5)) ∧ w.cell? ⟨gt, j * 9 + 8, none⟩ = some (.int .u8 (g (pr j) 6)) ∧ w.cell? ⟨gt, k * 9, none⟩ = some (.int .i32 (fr k)) ∧ w.cell? ⟨gt, k * 9 + 1, none⟩ = some (.int .i32 (Ucd.to k)) ∧ w.cell? ⟨gt, k * 9 + 2, none⟩ = some (.int .u8 (g (pr k) 0)) ∧ w.cell? ⟨gt, k * 9 + 3, none⟩ = some (.int .u8 (g (pr k) 1)) ∧ w.cell? ⟨gt, k * 9 + 4, none⟩ = some (.int .u8 (g (pr k) 2)) ∧ w.cell? ⟨gt, k * 9 + 5, none⟩ = some (.int .u8 (g (pr k) 3)) ∧ w.cell? ⟨gt, k * 9 + 6, none⟩ = some (.int .u8 (g (pr k) 4)) ∧ w.cell? ⟨gt, k * 9 + 7, none⟩ = some (.int .u8 (g (pr k) 5)) ∧ w.cell? ⟨gt, k * 9 + 8, none⟩ = some (.int .u8 (g (pr k) 6))
theorem TabAt.tabS {w : World} {gt : Nat} (h : TabAt w gt) {i j k : Nat} (hi : i < 166) (hj : j < 166) (hk : k < 166) : TabS gt i j k w :=
  ⟨h.2 i 0 hi (by decide), h.2 i 1 hi (by decide), h.2 i 2 hi (by decide), h.2 i 3 hi (by decide), h.2 i 4 hi (by decide), h.2 i 5 hi (by decide), h.2 i 6 hi (by decide), h.2 i 7 hi (by decide), h.2 i 8 hi (by decide), h.2 j 0 hj (by decide), h.2 j 1 hj (by decide), h.2 j 2 hj (by decide), h.2 j 3 hj (by decide), h.2 j 4 hj (by decide), h.2 j 5 hj (by decide), h.2 j 6 hj (by decide), h.2 j 7 hj (by decide), h.2 j 8 hj (by decide), h.2 k 0 hk (by decide), h.2 k 1 hk (by decide), h.2 k 2 hk (by decide), h.2 k 3 hk (by decide), h.2 k 4 hk (by decide), h.2 k 5 hk (by decide), h.2 k 6 hk (by decide), h.2 k 7 hk (by decide), h.2 k 8 hk (by decide)⟩
/-- row i of the table lies in block X -/
def Rg (w : World) (X i : Nat) : Prop := w.heap[X]? = some (.cells (rw9 i).toArray 37 (0, 0))
theorem Rg.lt {w : World} {X i : Nat} (h : Rg w X i) : X < w.heap.size := (Array.getElem?_eq_some_iff.1 h).1
theorem Rg.go {w w' : World} {X i : Nat} (h : Rg w X i) (hb : Below w.heap.size w w') : Rg w' X i := (hb.block X h.lt).trans h
theorem Rg.cell {w : World} {X i : Nat} (h : Rg w X i) (q : Nat) : w.cell? ⟨X, q, none⟩ = (rw9 i)[q]? := by
  rw [cell_of_row w X q _ _ _ h, List.getElem?_toArray]
abbrev tri (w : World) (i j k : Nat) : World := (((w.alloc (.cells (rw9 i).toArray 37)).alloc (.cells (rw9 j).toArray 37)).alloc (.cells (rw9 k).toArray 37)).drew
theorem tri_at (w0 w : World) (i j k : Nat) (h : Below w0.heap.size w0 w) : Rg (tri w i j k) w.heap.size i ∧ Rg (tri w i j k) (w.heap.size + 1) j ∧ Rg (tri w i j k) (w.heap.size + 1 + 1) k ∧ Below w0.heap.size w0 (tri w i j k) := by
  refine ⟨kept (kept (World.alloc_heap_new w _)), kept ?_, ?_, ((h.alloc h.size _).alloc (h.alloc h.size _).size _ |>.alloc ((h.alloc h.size _).alloc (h.alloc h.size _).size _).size _).drew⟩
  · have := World.alloc_heap_new (w.alloc (.cells (rw9 i).toArray 37)) (.cells (rw9 j).toArray 37)
    rwa [World.size_alloc] at this
  · have := World.alloc_heap_new ((w.alloc (.cells (rw9 i).toArray 37)).alloc (.cells (rw9 j).toArray 37)) (.cells (rw9 k).toArray 37)
    rwa [World.size_alloc, World.size_alloc] at this
def Three (w0 T : World) (X Y Z i j k : Nat) : Prop := Rg T X i ∧ Rg T Y j ∧ Rg T Z k ∧ X ≠ Z ∧ Y ≠ Z ∧ w0.heap.size ≤ Z ∧ Below w0.heap.size w0 T
theorem three_ijk {w0 w : World} {i j k : Nat} (h : Below w0.heap.size w0 w) : Three w0 (tri w i j k) (w.heap.size) (w.heap.size + 1) (w.heap.size + 1 + 1) i j k := by
  obtain ⟨h1, h2, h3, h4⟩ := tri_at w0 w i j k h
  have := h.size
  exact ⟨h1, h2, h3, by omega, by omega, by omega, h4⟩
theorem three_ikj {w0 w : World} {i j k : Nat} (h : Below w0.heap.size w0 w) : Three w0 (tri w i k j) (w.heap.size) (w.heap.size + 1 + 1) (w.heap.size + 1) i j k := by
  obtain ⟨h1, h2, h3, h4⟩ := tri_at w0 w i k j h
  have := h.size
  exact ⟨h1, h3, h2, by omega, by omega, by omega, h4⟩
theorem three_jik {w0 w : World} {i j k : Nat} (h : Below w0.heap.size w0 w) : Three w0 (tri w j i k) (w.heap.size + 1) (w.heap.size) (w.heap.size + 1 + 1) i j k := by
  obtain ⟨h1, h2, h3, h4⟩ := tri_at w0 w j i k h
  have := h.size
  exact ⟨h2, h1, h3, by omega, by omega, by omega, h4⟩
theorem three_jki {w0 w : World} {i j k : Nat} (h : Below w0.heap.size w0 w) : Three w0 (tri w j k i) (w.heap.size + 1 + 1) (w.heap.size) (w.heap.size + 1) i j k := by
  obtain ⟨h1, h2, h3, h4⟩ := tri_at w0 w j k i h
  have := h.size
  exact ⟨h3, h1, h2, by omega, by omega, by omega, h4⟩
theorem three_kij {w0 w : World} {i j k : Nat} (h : Below w0.heap.size w0 w) : Three w0 (tri w k i j) (w.heap.size + 1) (w.heap.size + 1 + 1) (w.heap.size) i j k := by
  obtain ⟨h1, h2, h3, h4⟩ := tri_at w0 w k i j h
  have := h.size
  exact ⟨h2, h3, h1, by omega, by omega, by omega, h4⟩
theorem three_kji {w0 w : World} {i j k : Nat} (h : Below w0.heap.size w0 w) : Three w0 (tri w k j i) (w.heap.size + 1 + 1) (w.heap.size + 1) (w.heap.size) i j k := by
  obtain ⟨h1, h2, h3, h4⟩ := tri_at w0 w k j i h
  have := h.size
  exact ⟨h3, h2, h1, by omega, by omega, by omega, h4⟩
theorem sc_fr {i : Nat} (hi : i < 166) : sc (fr i) = g (pr i) 4 := by
  unfold sc
  rw [(of_row hi (Int.le_refl _) (fr_bd hi).2.1).2]
theorem sc_to {i : Nat} (hi : i < 166) : sc (Ucd.to i) = g (pr i) 4 := by
  unfold sc
  rw [(of_row hi (fr_bd hi).2.1 (Int.le_refl _)).2]
theorem sc_769 : sc 769 = 1 := by decide +kernel
def pset (a b : Int) (s : Nat) : Bool := decide (2 ≤ s) && (a == (s : Int) || b == (s : Int))
def oneB (m x : Int) : Bool := decide (m = x) || decide (m ≤ 1) || (decide (8 ≤ m) && decide (x ≤ 10)) || (decide (m = 8) && decide (x = 11))
def fewB (m x : Int) : Bool := decide (m = 2) && decide (8 ≤ x)
def mn (a b : Int) : Int := if b < a then b else a
def mx (a b : Int) : Int := if a < b then b else a
def lv2 (a b : Int) : Int := if oneB (mn a b) (mx a b) = true then 2 else if fewB (mn a b) (mx a b) = true then 3 else 4
theorem lv2_tab : ∀ a : Nat, a < 12 → ∀ b : Nat, b < 12 → lv (pset a b) = lv2 a b := by decide +kernel
theorem lv2_eq {a b : Int} (ha : 0 ≤ a ∧ a ≤ 11) (hb : 0 ≤ b ∧ b ≤ 11) : lv (pset a b) = lv2 a b := by
  obtain ⟨x, rfl⟩ : ∃ x : Nat, a = (x : Int) := ⟨a.toNat, by omega⟩
  obtain ⟨y, rfl⟩ : ∃ y : Nat, b = (y : Int) := ⟨b.toNat, by omega⟩
  exact lv2_tab x (by omega) y (by omega)
theorem lev3 {x z y : Int} (hx : 0 ≤ x) (hz : 0 ≤ z) (hy : 0 ≤ y) (hs : sc z ≤ 1) : lev [x, z, y] = if (decide (x < 128) && decide (y < 128) && decide (z < 128)) = true then 1 else lv2 (sc x) (sc y) := by
  unfold lev
  have e1 : asc [x, z, y] = (decide (x < 128) && decide (y < 128) && decide (z < 128)) := by
    unfold asc
    simp only [List.all_cons, List.all_nil, decide_eq_true hx, decide_eq_true hy, decide_eq_true hz, Bool.true_and, Bool.and_true]
    cases decide (x < 128) <;> cases decide (y < 128) <;> cases decide (z < 128) <;> rfl
  have e2 : lv (sb [x, z, y]) = lv2 (sc x) (sc y) := by
    rw [← lv2_eq (sc_bd x) (sc_bd y)]
    refine lv_congr fun s _ => ?_
    unfold sb pset
    by_cases h : 2 ≤ s
    · have hzz : (sc z == (s : Int)) = false := by simp; omega
      simp only [List.any_cons, List.any_nil, hzz, Bool.or_false, Bool.false_or]
    · rw [decide_eq_false h, Bool.false_and, Bool.false_and]
  rw [e1, e2]
theorem level_in (l : List Int) (W : World) (hl : l.length ≤ 1000) : Calls Tryd.prog 10 #[.slice (some ⟨W.heap.size, 0, none⟩) l.length l.length] (W.alloc (.cells (cl .i32 l).toArray 21)) (Tells (.int .u8 (lev l)) (W.alloc (.cells (cl .i32 l).toArray 21))) :=
  Level_any l _ l.length l.length _ rfl (by omega) (row_new' W (cl .i32 l) 21)
theorem mx_max (p q : Int) : max p q = mx p q := by unfold mx; split <;> omega
theorem mn_min (p q : Int) : min p q = mn p q := by unfold mn; split <;> omega
theorem chk_any4 {l : List Int} (h : lev l = 4) : Mix.chk l = 13 := by unfold Mix.chk; rw [if_pos h]
end Go.Proofs.YtjpmecdjlodaoaaDoor.Mix
