import Derived.Test.YtjpmecdjlodaoaaDoorUcdOf2
import Derived.Test.YtjpmecdjlodaoaaDoorUcdRefRows
import Derived.Deep.QuietTactic
import Derived.BigQuiet
/-
  The document's own answer of layer 2: fasciaref02.prop.
-/
namespace Go.Proofs.YtjpmecdjlodaoaaDoor
open Go.RowKit Ucd

/-- a byte out of an int that fits -/
theorem u8_in (x : Int) (h0 : 0 ≤ x) (h1 : x < 256) : IntKind.u8.wrap x = x := by
  simp [IntKind.wrap, IntKind.bits, IntKind.signed]
  omega

set_option maxRecDepth 100000 in
set_option maxHeartbeats 1000000 in
theorem RefProp_any (a b : Int) (i : Nat) (hi : i < 166) (w : World) : Calls Tryd.prog 43 #[.agg #[.int .i64 a, .int .i64 b, .int .i64 (g (pr i) 0), .int .i64 (g (pr i) 1), .int .i64 (g (pr i) 2), .int .i64 (g (pr i) 3), .int .i64 (g (pr i) 4), .int .i64 (g (pr i) 5), .int .i64 (g (pr i) 6)]] w fun e w' => e = .returned (pv (pr i)) ∧ Below w.heap.size w w' := by
  have h0 := pr_bd hi 0
  have h1 := pr_bd hi 1
  have h2 := pr_bd hi 2
  have h3 := pr_bd hi 3
  have h4 := pr_bd hi 4
  have h5 := pr_bd hi 5
  have h6 := pr_bd hi 6
  go_enter Tryd.func43, Tryd.ntmps43
  go_wp2
  refine bodyPost_ret (v := pv (pr i)) ?_ rfl ⟨rfl, ?_⟩
  · simp [results, Tryd.results43, go_sem]
  · exact ((Below.refl _ _).alloc (Nat.le_refl _) _).alloc (by simp) _

end Go.Proofs.YtjpmecdjlodaoaaDoor

/-
  The document's own answer of layer 2: which part of its table (fasciaref02.rows), and Of.
-/
namespace Go.Proofs.YtjpmecdjlodaoaaDoor
open Go.RowKit Ucd

/-- where the part begins in which r would be, and how many rows it has -/
def pb (r : Int) : Nat := if r < 127 then 0 else if r < 1030 then 34 else if r < 1617 then 68 else if r < 8238 then 102 else 136
def pn (r : Int) : Nat := if r < 8238 then 34 else 30

set_option maxRecDepth 100000 in
set_option maxHeartbeats 1000000 in
theorem RefRows_any (r : Int) (w : World) : Calls Tryd.prog 42 #[.int .i32 r] w fun e w' => e = .returned (.slice (some ⟨w.heap.size, 0, none⟩) (pn r) (pn r)) ∧ w' = w.alloc (.cells (RD (pb r) (pn r)).toArray 63) := by
  by_cases h1 : r < 127
  · rw [show pb r = 0 from by simp [pb, h1], show pn r = 34 from by simp [pn]; omega]
    go_enter Tryd.func42, Tryd.ntmps42
    go_wp2_with (go_at_call 52; refine (rows1_any _).mono ?_; rintro e w' ⟨rfl, _⟩)
    go_ret
    exact ⟨rfl, rfl⟩
  · by_cases h2 : r < 1030
    · rw [show pb r = 34 from by simp [pb, h1, h2], show pn r = 34 from by simp [pn]; omega]
      go_enter Tryd.func42, Tryd.ntmps42
      go_wp2_with (go_at_call 53; refine (rows2_any _).mono ?_; rintro e w' ⟨rfl, _⟩)
      go_ret
      exact ⟨rfl, rfl⟩
    · by_cases h3 : r < 1617
      · rw [show pb r = 68 from by simp [pb, h1, h2, h3], show pn r = 34 from by simp [pn]; omega]
        go_enter Tryd.func42, Tryd.ntmps42
        go_wp2_with (go_at_call 54; refine (rows3_any _).mono ?_; rintro e w' ⟨rfl, _⟩)
        go_ret
        exact ⟨rfl, rfl⟩
      · by_cases h4 : r < 8238
        · rw [show pb r = 102 from by simp [pb, h1, h2, h3, h4], show pn r = 34 from by simp [pn, h4]]
          go_enter Tryd.func42, Tryd.ntmps42
          go_wp2_with (go_at_call 55; refine (rows4_any _).mono ?_; rintro e w' ⟨rfl, _⟩)
          go_ret
          exact ⟨rfl, rfl⟩
        · rw [show pb r = 136 from by simp [pb, h1, h2, h3, h4], show pn r = 30 from by simp [pn, h4]]
          go_enter Tryd.func42, Tryd.ntmps42
          go_wp2_with (go_at_call 56; refine (rows5_any _).mono ?_; rintro e w' ⟨rfl, _⟩)
          go_ret
          exact ⟨rfl, rfl⟩

theorem RD_get (b n i k : Nat) (h : i < n) (hk : k < 9) : (RD b n)[i * 9 + k]? = (rd (b + i))[k]? := by
  have hs : ∀ n, RD b (n + 1) = RD b n ++ rd (b + n) := fun n => by simp [RD, List.range_succ]
  have hl : ∀ n, (RD b n).length = n * 9 := fun n => by
    induction n with
    | zero => rfl
    | succ n ih => rw [hs, List.length_append, ih]; simp [rd]; omega
  induction n with
  | zero => omega
  | succ n ih =>
    rw [hs]
    rcases Nat.lt_or_ge i n with h1 | h1
    · rw [List.getElem?_append_left (by rw [hl]; omega), ih h1]
    · obtain rfl : i = n := by omega
      rw [List.getElem?_append_right (by rw [hl]; omega), hl, Nat.add_sub_cancel_left]

/-- the part has every row that could have r -/
theorem part_ok (r : Int) {i : Nat} (hi : i < 166) (h : fr i ≤ r ∧ r ≤ to i) : pb r ≤ i ∧ i < pb r + pn r := by
  have a34 := fr_bd (i := 34) (by omega)
  have hb : fr 34 = 127 ∧ fr 68 = 1030 ∧ fr 102 = 1617 ∧ fr 136 = 8238 ∧ to 33 < 127 ∧ to 67 < 1030 ∧ to 101 < 1617 ∧ to 135 < 8238 := by decide +kernel
  unfold pb pn
  have up : ∀ k, k < 166 → r < fr k → i < k := fun k hk hr => by
    rcases Nat.lt_or_ge i k with h1 | h1
    · exact h1
    · rcases Nat.lt_or_ge k i with h2 | h2
      · have := rise (i := k) i h2 hi; have := fr_bd hk; omega
      · obtain rfl : k = i := by omega
        omega
  have dn : ∀ k, k + 1 < 166 → to k < r → k < i := fun k hk hr => by
    rcases Nat.lt_or_ge k i with h1 | h1
    · exact h1
    · have := to_mono (i := i) (j := k) h1 (by omega)
      omega
  split
  · have := up 34 (by omega) (by omega); split <;> omega
  · split
    · have := up 68 (by omega) (by omega); have := dn 33 (by omega) (by omega); split <;> omega
    · split
      · have := up 102 (by omega) (by omega); have := dn 67 (by omega) (by omega); split <;> omega
      · split
        · have := up 136 (by omega) (by omega); have := dn 101 (by omega) (by omega); omega
        · have := dn 135 (by omega) (by omega); omega

end Go.Proofs.YtjpmecdjlodaoaaDoor

/-
  The document's own answer of layer 2: fasciaref02.Of.
-/
namespace Go.Proofs.YtjpmecdjlodaoaaDoor
open Go.RowKit Ucd

/-- n rows from row b on, nine cells a row, in block G -/
def RdAt (w : World) (G b n : Nat) : Prop := G < w.heap.size ∧ ∀ i k, i < n → k < 9 → w.cell? ⟨G, i * 9 + k, none⟩ = (rd (b + i))[k]?
theorem RdAt.go {w w' : World} {G b n : Nat} (h : RdAt w G b n) (hb : Below w.heap.size w w') : RdAt w' G b n :=
  ⟨Nat.lt_of_lt_of_le h.1 hb.size, fun i k hi hk => (hb.cell (p := ⟨G, i * 9 + k, none⟩) h.1).trans (h.2 i k hi hk)⟩
theorem RdAt.cells {w : World} {G b n : Nat} (h : RdAt w G b n) (i : Nat) (hi : i < n) :
    w.cell? ⟨G, i * 9, none⟩ = some (.int .i64 (fr (b + i))) ∧ w.cell? ⟨G, i * 9 + 1, none⟩ = some (.int .i64 (to (b + i))) ∧ w.cell? ⟨G, i * 9 + 2, none⟩ = some (.int .i64 (g (pr (b + i)) 0)) ∧ w.cell? ⟨G, i * 9 + 3, none⟩ = some (.int .i64 (g (pr (b + i)) 1)) ∧
    w.cell? ⟨G, i * 9 + 4, none⟩ = some (.int .i64 (g (pr (b + i)) 2)) ∧ w.cell? ⟨G, i * 9 + 5, none⟩ = some (.int .i64 (g (pr (b + i)) 3)) ∧ w.cell? ⟨G, i * 9 + 6, none⟩ = some (.int .i64 (g (pr (b + i)) 4)) ∧ w.cell? ⟨G, i * 9 + 7, none⟩ = some (.int .i64 (g (pr (b + i)) 5)) ∧ w.cell? ⟨G, i * 9 + 8, none⟩ = some (.int .i64 (g (pr (b + i)) 6)) :=
  ⟨h.2 i 0 hi (by omega), h.2 i 1 hi (by omega), h.2 i 2 hi (by omega), h.2 i 3 hi (by omega), h.2 i 4 hi (by omega), h.2 i 5 hi (by omega), h.2 i 6 hi (by omega), h.2 i 7 hi (by omega), h.2 i 8 hi (by omega)⟩
theorem RdAt.new (w : World) (b n : Nat) : RdAt (w.alloc (.cells (RD b n).toArray 63)) w.heap.size b n :=
  ⟨by simp, fun i k hi hk => by
    rw [cell_of_row _ _ _ (RD b n).toArray 63 (0, 0) (World.alloc_heap_new w _), List.getElem?_toArray]
    exact RD_get b n i k hi hk⟩

theorem pb_le (r : Int) : pb r + pn r ≤ 166 := by
  unfold pb pn
  split
  · split <;> omega
  · split
    · split <;> omega
    · split
      · split <;> omega
      · split <;> omega

set_option maxRecDepth 100000 in
set_option maxHeartbeats 1000000 in
theorem RefOf_any (r : Int) (w : World) (hr0 : -2147483648 ≤ r) (hr1 : r ≤ 2147483647) : Calls Tryd.prog 29 #[.int .i32 r] w fun e w' => e = .returned (pv (of r)) ∧ Below w.heap.size w w' := by
  have bP := Blk7.new w
  have hB0 : Below w.heap.size w (w.alloc (.cells #[.int .u8 0, .int .u8 0, .int .u8 0, .int .u8 0, .int .u8 0, .int .u8 0, .int .u8 0] 35)) := (Below.refl _ w).alloc (Nat.le_refl _) _
  go_enter Tryd.func29, Tryd.ntmps29
  go_wp2_with (go_at_call 42; refine (RefRows_any r _).mono ?_; rintro e w1 ⟨rfl, hw1⟩; have hT := RdAt.new (w.alloc (.cells #[.int .u8 0, .int .u8 0, .int .u8 0, .int .u8 0, .int .u8 0, .int .u8 0, .int .u8 0] 35)) (pb r) (pn r); have hb1 := (Below.refl _ (w.alloc (.cells #[.int .u8 0, .int .u8 0, .int .u8 0, .int .u8 0, .int .u8 0, .int .u8 0, .int .u8 0] 35))).alloc (Nat.le_refl _) (.cells (RD (pb r) (pn r)).toArray 63); rw [← hw1] at hT hb1; clear hw1)
  rw [World.size_alloc] at hT
  have bP1 := bP.go hb1
  have hB1 := hB0.trans (hb1.mono hB0.size)
  clear bP hB0 hb1
  have hle := pb_le r
  have hpart : Hid (∀ i, i < 166 → fr i ≤ r ∧ r ≤ to i → pb r ≤ i ∧ i < pb r + pn r) := Lib.hid (fun i hi h => part_ok r hi h)
  obtain ⟨p, hp⟩ : ∃ p, pb r = p := ⟨_, rfl⟩
  obtain ⟨n, hn⟩ : ∃ n, pn r = n := ⟨_, rfl⟩
  rw [hp, hn] at hT hle hpart
  rw [hn]
  clear hp hn
  have HT := Lib.hid hT
  clear hT
  go_loop [4] (fun i => ∃ k : Nat, k ≤ n ∧ i = .int .i64 k ∧ Hid (∀ j, j < k → ¬ (fr (p + j) ≤ r ∧ r ≤ to (p + j)))) (fun i => n - (intOf i).toNat)
  case atStart => exact ⟨0, by omega, rfl, Lib.hid (fun j hj => by omega)⟩
  case round =>
    obtain ⟨k, hk, rfl, hno⟩ := hrel
    by_cases hlt : k < n
    · obtain ⟨t0, t1, t2, t3, t4, t5, t6, t7, t8⟩ := HT.out.cells k hlt
      have hfb := fr_bd (i := p + k) (by omega)
      obtain ⟨m, hm⟩ : ∃ m, p + k = m := ⟨_, rfl⟩
      rw [hm] at t0 t1 t2 t3 t4 t5 t6 t7 t8 hfb
      have HM := Lib.hid hm
      clear hm
      by_cases h1 : fr m ≤ r
      · by_cases h2 : r ≤ to m
        · have HO : Hid (of r = pr m) := Lib.hid (of_row (by rw [← HM.out]; omega) h1 h2).2
          go_wp2_with (first
            | (go_at_call 43; refine (RefProp_any _ _ m (by have := HM.out; omega) _).mono ?_; rintro e w3 ⟨rfl, hb3⟩; have bP3 := bP1.go hb3; have p0 := bP3.cell 0 (by omega); have p1 := bP3.cell 1 (by omega); have p2 := bP3.cell 2 (by omega); have p3 := bP3.cell 3 (by omega); have p4 := bP3.cell 4 (by omega); have p5 := bP3.cell 5 (by omega); have p6 := bP3.cell 6 (by omega); have f0 := bP3.frozen 0; have f1 := bP3.frozen 1; have f2 := bP3.frozen 2; have f3 := bP3.frozen 3; have f4 := bP3.frozen 4; have f5 := bP3.frozen 5; have f6 := bP3.frozen 6))
          refine bodyPost_ret (v := pv (pr m)) ?_ rfl ⟨by rw [HO.out], ?_⟩
          · simp [results, Tryd.results29, go_sem, p0, p1, p2, p3, p4, p5, p6]
          · exact below_set7 (hB1.trans (hb3.mono hB1.size)) (Nat.le_refl _) _ _ _ _ _ _ _
        · go_wp2
          go_round
          case rel => exact ⟨k + 1, by omega, by go_num, Lib.hid (fun j hj hh => by
            rcases Nat.lt_or_ge j k with h | h
            · exact hno.out j h hh
            · obtain rfl : j = k := by omega
              rw [HM.out] at hh
              exact h2 hh.2)⟩
          case measure => simp [intOf]; omega
      · go_wp2
        go_round
        case rel => exact ⟨k + 1, by omega, by go_num, Lib.hid (fun j hj hh => by
          rcases Nat.lt_or_ge j k with h | h
          · exact hno.out j h hh
          · obtain rfl : j = k := by omega
            rw [HM.out] at hh
            exact h1 hh.1)⟩
        case measure => simp [intOf]; omega
    · obtain rfl : k = n := by omega
      have HO : Hid (of r = un) := Lib.hid (of_none (fun i hi hh => by
        have h := hpart.out i hi hh
        have := hno.out (i - p) (by omega)
        rw [show p + (i - p) = i from by omega] at this
        exact this hh))
      have p0 := bP1.cell 0 (by omega); have p1 := bP1.cell 1 (by omega); have p2 := bP1.cell 2 (by omega); have p3 := bP1.cell 3 (by omega); have p4 := bP1.cell 4 (by omega); have p5 := bP1.cell 5 (by omega); have p6 := bP1.cell 6 (by omega)
      have f0 := bP1.frozen 0; have f1 := bP1.frozen 1; have f2 := bP1.frozen 2; have f3 := bP1.frozen 3; have f4 := bP1.frozen 4; have f5 := bP1.frozen 5; have f6 := bP1.frozen 6
      go_wp2
      refine bodyPost_ret (v := pv un) ?_ rfl ⟨by rw [HO.out], ?_⟩
      · simp [results, Tryd.results29, go_sem, p0, p1, p2, p3, p4, p5, p6, un, g]
      · exact below_set7 hB1 (Nat.le_refl _) _ _ _ _ _ _ _
end Go.Proofs.YtjpmecdjlodaoaaDoor
