/-
  The document's own answer of layer 2: fasciaref02.Table.
-/
import Derived.Test.YteggchjehfkppaaDoorUcdRefC
import Derived.Test.YteggchjehfkppaaDoorUcdTable
import Derived.Test.YteggchjehfkppaaDoorAppendStep
import Derived.OwnWalk
import Derived.Deep.RegionHeld3
import Derived.Deep.AppendLies
import Derived.Deep.MidRow
namespace Go.Proofs.YteggchjehfkppaaDoor
open Go.RowKit Ucd

theorem info_nine : (Tryd.prog.info? 45).map (fun i => (i.zero, i.size, i.bytes)) = some (some (.agg #[.int .i64 0, .int .i64 0, .int .i64 0, .int .i64 0, .int .i64 0, .int .i64 0, .int .i64 0, .int .i64 0, .int .i64 0]), 9, 72) := by kernel_rfl

theorem RD_app (b n : Nat) : ∀ m, RD b n ++ RD (b + n) m = RD b (n + m)
  | 0 => by simp [RD]
  | m + 1 => by
    have hs : ∀ b n, RD b (n + 1) = RD b n ++ rd (b + n) := fun b n => by simp [RD, List.range_succ]
    rw [hs, ← List.append_assoc, RD_app b n m, ← Nat.add_assoc, hs, Nat.add_assoc]
theorem RD_len (b : Nat) : ∀ n, (RD b n).length = n * 9
  | 0 => rfl
  | n + 1 => by
    have hs : RD b (n + 1) = RD b n ++ rd (b + n) := by simp [RD, List.range_succ]
    rw [hs, List.length_append, RD_len b n]; simp [rd]; omega
theorem RD_one (b n : Nat) : ∀ u ∈ RD b n, u.oneCell' = true := by
  intro u hu
  obtain ⟨j, _, hj⟩ := List.mem_flatMap.1 hu
  simp [rd] at hj
  rcases hj with rfl | rfl | rfl | rfl | rfl | rfl | rfl | rfl | rfl <;> rfl

theorem own_base {w : World} {base base' : Nat} {e : TypeId} {size n : Nat} {v : Value} {xs : List Value} (h : w.ownsRow base e size v n xs) (hb : base' ≤ base) : w.ownsRow base' e size v n xs :=
  ⟨h.1, h.2.imp id fun ⟨g, cap, cur, h1, h2, h3⟩ => ⟨g, cap, cur, h1, Nat.le_trans hb h2, h3⟩⟩

theorem size_nine : (Tryd.prog.info? 45).map (·.size) = some 9 := by kernel_rfl
/-- nine cells beside one another -/
theorem range9 {w : World} {G o : Nat} {a b c d e f h i j : Value} (h0 : w.cell? ⟨G, o, none⟩ = some a) (h1 : w.cell? ⟨G, o + 1, none⟩ = some b) (h2 : w.cell? ⟨G, o + 2, none⟩ = some c) (h3 : w.cell? ⟨G, o + 3, none⟩ = some d) (h4 : w.cell? ⟨G, o + 4, none⟩ = some e)
    (h5 : w.cell? ⟨G, o + 5, none⟩ = some f) (h6 : w.cell? ⟨G, o + 6, none⟩ = some h) (h7 : w.cell? ⟨G, o + 7, none⟩ = some i) (h8 : w.cell? ⟨G, o + 8, none⟩ = some j) : w.rangeAt G o [a, b, c, d, e, f, h, i, j] := by
  intro k v hk
  have hlt : k < 9 := by have := (List.getElem?_eq_some_iff.1 hk).1; simpa using this
  obtain rfl | rfl | rfl | rfl | rfl | rfl | rfl | rfl | rfl : k = 0 ∨ k = 1 ∨ k = 2 ∨ k = 3 ∨ k = 4 ∨ k = 5 ∨ k = 6 ∨ k = 7 ∨ k = 8 := by omega
  all_goals (simp at hk; subst hk; assumption)

/-- a row of the call's own with something in it -/
theorem own_known {w : World} {base : Nat} {e : TypeId} {size n : Nat} {v : Value} {xs : List Value} (h : w.ownsRow base e size v n xs) (hn : 0 < n) : ∃ g c, v = .slice (some ⟨g, 0, none⟩) n c ∧ n ≤ c ∧ c ≤ maxLen ∧ base ≤ g ∧ g < w.heap.size := by
  rcases h.2 with ⟨rfl, rfl⟩ | ⟨g, cap, cur, rfl, hb, hg, hc, hm, _⟩
  · omega
  · exact ⟨g, cap, rfl, hc, hm, hb, (Array.getElem?_eq_some_iff.1 hg).1⟩

theorem RdAt.of_own {w : World} {base G cap b n : Nat} (h : w.ownsRow base 45 9 (.slice (some ⟨G, 0, none⟩) n cap) n (RD b n)) (hG : G < w.heap.size) : RdAt w G b n :=
  ⟨hG, fun i k hi hk => by rw [h.cellAt _ (by omega)]; exact RD_get b n i k hi hk⟩

/-- rows that a call has just laid -/
theorem new_rd {w w1 : World} {b n : Nat} (h : w1 = w.alloc (.cells (RD b n).toArray 45)) : Row w1 w1.heap.size (some ⟨w.heap.size, 0, none⟩) (RD b n) ∧ Below w.heap.size w w1 := by
  subst h
  refine ⟨?_, (Below.refl _ _).alloc (Nat.le_refl _) _⟩
  have := row_new w (RD b n).toArray 45 (RD b n) (by simp)
  rw [World.size_alloc]
  exact this

theorem keepc {B G o : Nat} {x a b : World} {v : Value} (h : Below B x b) (h' : Below B x a) (hG : G < B) (t : a.cell? ⟨G, o, none⟩ = some v) : b.cell? ⟨G, o, none⟩ = some v :=
  (h.cell (p := ⟨G, o, none⟩) hG).trans ((h'.cell (p := ⟨G, o, none⟩) hG).symm.trans t)
theorem keepr {B G o : Nat} {x a b : World} {cs : List Value} (h : Below B x b) (h' : Below B x a) (hG : G < B) (t : a.rangeAt G o cs) : b.rangeAt G o cs := fun j v hj => keepc h h' hG (t j v hj)

def RefTabRel (w5 : World) (o i : Value) (wr : World) : Prop :=
  ∃ k : Nat, k ≤ 166 ∧ i = .int .i64 k ∧ wr.ownsRow w5.heap.size 27 9 o k (TC k) ∧ Below w5.heap.size w5 wr

set_option maxRecDepth 100000 in
set_option maxHeartbeats 2000000 in
theorem RefTable_any (w : World) : Calls Tryd.prog 9 #[] w (MadeTable w) := by
  obtain ⟨i0, hi, hz0, hz1, hz2⟩ := info_parts info_nine
  have h0 := World.ownsRow_nil w w.heap.size 45 9
  go_enter Tryd.func9, Tryd.ntmps9
  go_wp2_with (first
    | (go_at_call 19; refine (rows1_any _).mono ?_; rintro e w1 ⟨rfl, hw1⟩; obtain ⟨r1, b1⟩ := new_rd hw1; have o1 := own_below h0 b1; have c1 := b1; clear hw1)
    | (at_builtin; refine wpList_append_row _ rfl _ _ 43 rfl w.heap.size 45 i0 _ 9 72 Tryd.underlying43 hi hz0 hz1 hz2 rfl (by decide) _ _ _ rfl o1 _ _ _ _ _ rfl (RD_len _ _) r1 (RD_one _ _) (by unfold maxLen; omega) (by omega) c1.size ?_; intro v1 x1 p1 g1)
    | fail)
  rw [Nat.zero_add, List.nil_append] at p1
  have d1 : Below w.heap.size w x1 := c1.grown g1 c1.size (fun j e => (o1.lt j e).1)
  clear r1 b1 o1 c1 g1 h0
  go_wp2_with (first
    | (go_at_call 20; refine (rows2_any _).mono ?_; rintro e w2 ⟨rfl, hw2⟩; obtain ⟨r2, b2⟩ := new_rd hw2; have o2 := own_below p1 b2; have c2 := d1.trans (b2.mono d1.size); clear hw2)
    | (at_builtin; refine wpList_append_row _ rfl _ _ 43 rfl w.heap.size 45 i0 _ 9 72 Tryd.underlying43 hi hz0 hz1 hz2 rfl (by decide) _ _ _ rfl o2 _ _ _ _ _ rfl (RD_len _ _) r2 (RD_one _ _) (by unfold maxLen; omega) (by omega) c2.size ?_; intro v2 x2 p2 g2)
    | fail)
  rw [show RD 0 34 ++ RD 34 34 = RD 0 68 from RD_app 0 34 34] at p2
  simp only [Nat.reduceAdd] at p2
  have d2 : Below w.heap.size w x2 := c2.grown g2 c2.size (fun j e => (o2.lt j e).1)
  clear r2 b2 o2 c2 g2 p1 d1
  go_wp2_with (first
    | (go_at_call 21; refine (rows3_any _).mono ?_; rintro e w3 ⟨rfl, hw3⟩; obtain ⟨r3, b3⟩ := new_rd hw3; have o3 := own_below p2 b3; have c3 := d2.trans (b3.mono d2.size); clear hw3)
    | (at_builtin; refine wpList_append_row _ rfl _ _ 43 rfl w.heap.size 45 i0 _ 9 72 Tryd.underlying43 hi hz0 hz1 hz2 rfl (by decide) _ _ _ rfl o3 _ _ _ _ _ rfl (RD_len _ _) r3 (RD_one _ _) (by unfold maxLen; omega) (by omega) c3.size ?_; intro v3 x3 p3 g3)
    | fail)
  rw [show RD 0 68 ++ RD 68 34 = RD 0 102 from RD_app 0 68 34] at p3
  simp only [Nat.reduceAdd] at p3
  have d3 : Below w.heap.size w x3 := c3.grown g3 c3.size (fun j e => (o3.lt j e).1)
  clear r3 b3 o3 c3 g3 p2 d2
  go_wp2_with (first
    | (go_at_call 22; refine (rows4_any _).mono ?_; rintro e w4 ⟨rfl, hw4⟩; obtain ⟨r4, b4⟩ := new_rd hw4; have o4 := own_below p3 b4; have c4 := d3.trans (b4.mono d3.size); clear hw4)
    | (at_builtin; refine wpList_append_row _ rfl _ _ 43 rfl w.heap.size 45 i0 _ 9 72 Tryd.underlying43 hi hz0 hz1 hz2 rfl (by decide) _ _ _ rfl o4 _ _ _ _ _ rfl (RD_len _ _) r4 (RD_one _ _) (by unfold maxLen; omega) (by omega) c4.size ?_; intro v4 x4 p4 g4)
    | fail)
  rw [show RD 0 102 ++ RD 102 34 = RD 0 136 from RD_app 0 102 34] at p4
  simp only [Nat.reduceAdd] at p4
  have d4 : Below w.heap.size w x4 := c4.grown g4 c4.size (fun j e => (o4.lt j e).1)
  clear r4 b4 o4 c4 g4 p3 d3
  go_wp2_with (first
    | (go_at_call 23; refine (rows5_any _).mono ?_; rintro e w5 ⟨rfl, hw5⟩; obtain ⟨r5, b5⟩ := new_rd hw5; have o5 := own_below p4 b5; have c5 := d4.trans (b5.mono d4.size); clear hw5)
    | (at_builtin; refine wpList_append_row _ rfl _ _ 43 rfl w.heap.size 45 i0 _ 9 72 Tryd.underlying43 hi hz0 hz1 hz2 rfl (by decide) _ _ _ rfl o5 _ _ _ _ _ rfl (RD_len _ _) r5 (RD_one _ _) (by unfold maxLen; omega) (by omega) c5.size ?_; intro v5 x5 p5 g5)
    | fail)
  rw [show RD 0 136 ++ RD 136 30 = RD 0 166 from RD_app 0 136 30] at p5
  simp only [Nat.reduceAdd] at p5
  have d5 : Below w.heap.size w x5 := c5.grown g5 c5.size (fun j e => (o5.lt j e).1)
  clear r5 b5 o5 c5 g5 p4 d4
  obtain ⟨G, cap, rfl, _, _, hGb, hGl⟩ := own_known p5 (by omega)
  have HT := Lib.hid (RdAt.of_own p5 hGl)
  clear p5
  obtain ⟨i1, hj, hy0, hy1, hy2⟩ := info_parts info_range
  have HI : Hid (i0 = i0) := Lib.hid rfl
  clear hi hz0 hz1 hz2 HI
  go_wp2
  go_loopw [2, 3] (fun o i wr => RefTabRel x5 o i wr) (fun _ i _ => 166 - (intOf i).toNat)
  case atStart => exact ⟨0, by omega, rfl, World.ownsRow_nil _ _ _ _, Below.refl _ _⟩
  case round =>
    obtain ⟨k, hk, rfl, hown, hB⟩ := hrel
    by_cases hlt : k < 166
    · obtain ⟨t0, t1, t2, t3, t4, t5, t6, t7, t8⟩ := (HT.out.go hB).cells k hlt
      simp only [Nat.zero_add] at t0 t1 t2 t3 t4 t5 t6 t7 t8
      have hfb := fr_bd hlt
      have hGr : G < wr.heap.size := Nat.lt_of_lt_of_le hGl hB.size
      have e1 : IntKind.i32.wrap (fr k) = fr k := by simp [IntKind.wrap, IntKind.bits, IntKind.signed]; omega
      have e2 : IntKind.i32.wrap (to k) = to k := by simp [IntKind.wrap, IntKind.bits, IntKind.signed]; omega
      have k0 : (0 : Int) ≤ (k : Int) := by omega
      have k1 : (k : Int) < 166 := by omega
      go_wp2
      have hu := Tryd.underlying45
      have hlen : (Tryd.prog.info? 45).map (·.size) = some ([.int .i64 (fr k), .int .i64 (to k), .int .i64 (g (pr k) 0), .int .i64 (g (pr k) 1), .int .i64 (g (pr k) 2), .int .i64 (g (pr k) 3), .int .i64 (g (pr k) 4), .int .i64 (g (pr k) 5), .int .i64 (g (pr k) 6)] : List Value).length := by rw [size_nine]; rfl
      have rg : wr.rangeAt G (k * 9) [.int .i64 (fr k), .int .i64 (to k), .int .i64 (g (pr k) 0), .int .i64 (g (pr k) 1), .int .i64 (g (pr k) 2), .int .i64 (g (pr k) 3), .int .i64 (g (pr k) 4), .int .i64 (g (pr k) 5), .int .i64 (g (pr k) 6)] := range9 t0 t1 t2 t3 t4 t5 t6 t7 t8
      clear t2 t3 t4 t5 t6 t7 t8
      go_region_held3 (fun w' => w'.cell? ⟨G, k * 9, none⟩ = some (.int .i64 (fr k)) ∧ w'.cell? ⟨G, k * 9 + 1, none⟩ = some (.int .i64 (to k)) ∧ w'.rangeAt G (k * 9) [.int .i64 (fr k), .int .i64 (to k), .int .i64 (g (pr k) 0), .int .i64 (g (pr k) 1), .int .i64 (g (pr k) 2), .int .i64 (g (pr k) 3), .int .i64 (g (pr k) 4), .int .i64 (g (pr k) 5), .int .i64 (g (pr k) 6)]) (first | exact ⟨t0, t1, rg⟩ | exact ⟨z0, z1, zr⟩ | exact ⟨y0, y1, yr⟩ | exact ⟨x0, x1, xr⟩ | go_keep) (first
        | (go_at_call 24; refine (RefProp_any _ _ k hlt _).mono ?_; rintro e w2 ⟨rfl, hb2⟩; have z0 : w2.cell? ⟨G, k * 9, none⟩ = _ := (hb2.cell (p := ⟨G, k * 9, none⟩) hGr).trans t0; have z1 : w2.cell? ⟨G, k * 9 + 1, none⟩ = _ := (hb2.cell (p := ⟨G, k * 9 + 1, none⟩) hGr).trans t1; have zr : w2.rangeAt G (k * 9) _ := fun j v hj => (hb2.cell (p := ⟨G, k * 9 + j, none⟩) hGr).trans (rg j v hj); have hb2' : Below wr.heap.size wr w2 := below_of_drew hb2; have hown2 := (own_below hown hb2').alloc (.cells #[.int .i32 (fr k), .int .i32 (to k), .int .u8 (g (pr k) 0), .int .u8 (g (pr k) 1), .int .u8 (g (pr k) 2), .int .u8 (g (pr k) 3), .int .u8 (g (pr k) 4), .int .u8 (g (pr k) 5), .int .u8 (g (pr k) 6)] 27); have hB2 := (hB.trans (hb2'.mono hB.size)).alloc (hB.trans (hb2'.mono hB.size)).size (.cells #[.int .i32 (fr k), .int .i32 (to k), .int .u8 (g (pr k) 0), .int .u8 (g (pr k) 1), .int .u8 (g (pr k) 2), .int .u8 (g (pr k) 3), .int .u8 (g (pr k) 4), .int .u8 (g (pr k) 5), .int .u8 (g (pr k) 6)] 27); have y0 := keepc (o := k * 9) hB2 hB hGl t0; have y1 := keepc (o := k * 9 + 1) hB2 hB hGl t1; have yr := keepr hB2 hB hGl rg)
        | (refine step_append_lies _ (by rfl) (.tmp 25) (.tmp 44) 22 (by rfl) x5.heap.size 27 i1 _ 9 16 Tryd.underlying22 hj hy0 hy1 hy2 rfl (Nat.zero_lt_succ 8) u2 k (TC k) (by rfl) hown2 ⟨w2.heap.size, 0, none⟩ 1 1 (rc k) (by rfl) (by rfl) (news_new _ _ _ _ rfl) (rc_one k) (Nat.zero_lt_succ 0) (by unfold maxLen; omega) (by omega) hB2.size (w2.heap.size + 1) (by simp) ?_; intro g1 cap1 w3 hown3 hgrow3 hat3 hlt3; have hB3 := hB2.grown hgrow3 hB2.size (fun j e => (hown2.lt j e).1); have x0 := keepc (o := k * 9) hB3 hB hGl t0; have x1 := keepc (o := k * 9 + 1) hB3 hB hGl t1; have xr := keepr hB3 hB hGl rg))
      go_wp2
      go_roundw
      case rel => exact ⟨k + 1, by omega, by go_num, by rw [TC_succ]; exact hown3, hB3⟩
      case measure => simp [intOf]; omega
    · obtain rfl : k = 166 := by omega
      go_wp2
      go_ret
      exact ⟨_, rfl, own_base hown d5.size, d5.trans (hB.mono d5.size)⟩
end Go.Proofs.YteggchjehfkppaaDoor
