/-
  The contract of ucd.Table.
-/
import Derived.Test.YtjpmecdjlodaoaaDoorUcdOf2
import Derived.OwnWalk
import Derived.Test.YtjpmecdjlodaoaaDoorAppendRow
namespace Go.Proofs.YtjpmecdjlodaoaaDoor
open Go.RowKit Ucd

theorem info_range : (Tryd.prog.info? 37).map (fun i => (i.zero, i.size, i.bytes)) = some (some (.agg #[.int .i32 0, .int .i32 0, .int .u8 0, .int .u8 0, .int .u8 0, .int .u8 0, .int .u8 0, .int .u8 0, .int .u8 0]), 9, 16) := by kernel_rfl

/-- a row of nine numbers as cells -/
def rc9 (a b : Int) (p : List Int) : List Value := [.int .i32 a, .int .i32 b, .int .u8 (g p 0), .int .u8 (g p 1), .int .u8 (g p 2), .int .u8 (g p 3), .int .u8 (g p 4), .int .u8 (g p 5), .int .u8 (g p 6)]
def rc (i : Nat) : List Value := rc9 (fr i) (to i) (pr i)
/-- the first n rows as cells -/
def TC (n : Nat) : List Value := (List.range n).flatMap rc
theorem TC_succ (n : Nat) : TC (n + 1) = TC n ++ rc n := by simp [TC, List.range_succ]
theorem TC_len : ∀ n, (TC n).length = n * 9
  | 0 => rfl
  | n + 1 => by rw [TC_succ, List.length_append, TC_len n]; simp [rc, rc9]; omega
theorem TC_get (n i k : Nat) (h : i < n) (hk : k < 9) : (TC n)[i * 9 + k]? = (rc i)[k]? := by
  induction n with
  | zero => omega
  | succ n ih =>
    rw [TC_succ]
    rcases Nat.lt_or_ge i n with h1 | h1
    · rw [List.getElem?_append_left (by rw [TC_len]; omega), ih h1]
    · obtain rfl : i = n := by omega
      rw [List.getElem?_append_right (by rw [TC_len]; omega), TC_len, Nat.add_sub_cancel_left]

theorem rc_one (k : Nat) : ∀ u ∈ rc k, u.oneCell' = true := by
  intro u hu
  simp [rc, rc9] at hu
  rcases hu with rfl | rfl | rfl | rfl | rfl | rfl | rfl | rfl | rfl <;> rfl

/-- the table in memory of the call's own -/
def MadeTable (w : World) (e : Ending) (w' : World) : Prop :=
  ∃ v, e = .returned v ∧ w'.ownsRow w.heap.size 37 9 v 166 (TC 166) ∧ Below w.heap.size w w'
def TabRel (w : World) (o i : Value) (wr : World) : Prop :=
  ∃ k : Nat, k ≤ 166 ∧ i = .int .i64 k ∧ o = .slice (some ⟨w.heap.size, 0, none⟩) k 166 ∧ wr.ownsRow w.heap.size 37 9 (.slice (some ⟨w.heap.size, 0, none⟩) k 166) k (TC k) ∧ Below w.heap.size w wr

set_option maxRecDepth 100000 in
set_option maxHeartbeats 1000000 in
theorem Table_any (w : World) : Calls Tryd.prog 17 #[] w (MadeTable w) := by
  obtain ⟨i0, hi, hz0, hz1, hz2⟩ := info_parts info_range
  have HZ := Lib.hid hz2
  go_enter Tryd.func17, Tryd.ntmps17
  go_wp2_with (at_make; refine wpList_make_own _ rfl _ _ 32 rfl w.heap.size 37 i0 _ 9 Tryd.underlying32 hi hz0 hz1 .i64 .i64 166 166 rfl rfl rfl (by rw [HZ.out]; omega) (by unfold maxLen; omega) (Nat.le_refl _) ?_; intro w1 hown1 hgrow1)
  have hB1 : Below w.heap.size w w1 := (Below.refl _ _).grown hgrow1 (Nat.le_refl _) (fun j e => by cases e)
  go_loopw [1, 5] (fun o i wr => TabRel w o i wr) (fun _ i _ => 166 - (intOf i).toNat)
  case atStart => exact ⟨0, by omega, rfl, rfl, hown1, hB1⟩
  case round =>
    obtain ⟨k, hk, rfl, rfl, hown, hB⟩ := hrel
    by_cases hlt : k < 166
    · go_wp2_with (first
        | (go_at_call 31; refine (row_any k _ hlt).mono ?_; rintro e w' ⟨rfl, rfl⟩)
        | (go_at_call 32; refine (first_at k _ hlt).mono ?_; rintro e w2 ⟨rfl, hb2⟩)
        | (go_at_call 33; refine (last_at k _ hlt).mono ?_; rintro e w3 ⟨rfl, hb3⟩)
        | (go_at_call 34; refine (prop_at k _ hlt).mono ?_; rintro e w4 ⟨rfl, hb4⟩; have hO4 := own_below (own_below (own_below hown hb2) hb3) hb4; have hB2 := hB.trans (hb2.mono hB.size); have hB3 := hB2.trans (hb3.mono hB2.size); have hB4 := hB3.trans (hb4.mono hB3.size))
        | (at_builtin; refine wpList_append_fits _ rfl _ _ 32 rfl w.heap.size 37 i0 9 Tryd.underlying32 hi hz1 w.heap.size k 166 (TC k) rfl (hO4.alloc _) ⟨w4.heap.size, 0, none⟩ 1 1 (rc k) rfl (by rfl) (news_new _ _ _ _ rfl) (rc_one k) (by omega) ?_; intro w5 hown5 hgrow5; have hB5 : Below w.heap.size w w5 := (hB4.alloc hB4.size _).grown hgrow5 (hB4.alloc hB4.size _).size (fun j e => by cases e; exact Nat.le_refl _)))
      go_roundw
      case rel => exact ⟨k + 1, by omega, by go_num, rfl, by rw [TC_succ]; exact hown5, hB5⟩
      case measure => simp [intOf]; omega
    · obtain rfl : k = 166 := by omega
      go_wp2
      go_ret
      exact ⟨_, rfl, hown, hB⟩
end Go.Proofs.YtjpmecdjlodaoaaDoor
