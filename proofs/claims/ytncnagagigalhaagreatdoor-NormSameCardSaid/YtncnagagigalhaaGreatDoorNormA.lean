/-
  norm: within, open, syllable, joinSyllable, single.
-/
import Derived.Test.YtncnagagigalhaaGreatDoorRows
import Derived.Test.YtncnagagigalhaaGreatDoorWords
import Derived.WalkKit
import Derived.WalkLawsBesides
import Derived.WalkSpells
import Derived.Outline
import Derived.IntWalk
import Derived.Lib.Hide
import Derived.Deep.QuietTactic
import Derived.BigQuiet
namespace Go.Proofs.YtncnagagigalhaaGreatDoor
open Go.RowKit

namespace Norm
/-- a syllable's parts; a syllable of parts -/
def syl (r : Int) : Bool := decide (44032 ≤ r ∧ r ≤ 55203)
def sylParts (r : Int) : Int × Int := if (r - 44032) % 28 = 0 then (4352 + (r - 44032) / 28 / 21, 4449 + (r - 44032) / 28 % 21) else (r - (r - 44032) % 28, 4519 + (r - 44032) % 28)
def sylJoin (a b : Int) : Option Int :=
  if 4352 ≤ a ∧ a < 4371 ∧ 4449 ≤ b ∧ b < 4470 then some (44032 + ((a - 4352) * 21 + (b - 4449)) * 28)
  else if 44032 ≤ a ∧ a ≤ 55203 ∧ (a - 44032) % 28 = 0 ∧ 4520 ≤ b ∧ b < 4547 then some (a + b - 4519) else none
end Norm
open Norm

def Gives (v : Value) (w : World) (e : Ending) (w' : World) : Prop := e = .returned v ∧ w = w'
theorem gives_bool {a b : Bool} {w : World} (h : a = b) : Gives (.bool b) w (.returned (.bool a)) w := ⟨by rw [h], rfl⟩

theorem within_any (r f c : Int) (w : World) (hf : 0 ≤ f) (hf2 : f ≤ 1000000) (hc : 0 ≤ c) (hc2 : c ≤ 1000000) :
    Calls Tryz.prog 52 #[.int .i32 r, .int .i32 f, .int .i32 c] w (Gives (.bool (decide (f ≤ r ∧ r < f + c))) w) := by
  have w1 : IntKind.i32.wrap (f + c) = f + c := by simp only [IntKind.wrap, IntKind.bits, IntKind.signed]; simp; omega
  by_cases h1 : f ≤ r
  · by_cases h2 : r < f + c
    · go_enter Tryz.func52, Tryz.ntmps52
      go_wp2
      go_ret
      exact gives_bool (by first | (simp; omega) | (simp [h1]; done) | (simp [h1]; omega))
    · go_enter Tryz.func52, Tryz.ntmps52
      go_wp2
      go_ret
      exact gives_bool (by first | (simp; omega) | (simp [h1]; done) | (simp [h1]; omega))
  · go_enter Tryz.func52, Tryz.ntmps52
    go_wp2
    go_ret
    exact gives_bool (by first | (simp; omega) | (simp [h1]; done) | (simp [h1]; omega))

theorem single_any (r : Int) (w : World) : Calls Tryz.prog 40 #[.int .i32 r] w (Gives (.tuple #[.int .i32 (if r = 9001 then 12296 else if r = 9002 then 12297 else 0), .bool (decide (r = 9001 ∨ r = 9002))]) w) := by
  by_cases h1 : r = 9001
  · subst h1
    go_enter Tryz.func40, Tryz.ntmps40
    go_wp2
    go_ret2
    exact ⟨rfl, rfl⟩
  · by_cases h2 : r = 9002
    · subst h2
      go_enter Tryz.func40, Tryz.ntmps40
      go_wp2
      go_ret2
      exact ⟨rfl, rfl⟩
    · have h3 : ((r == 9001) = false) := by simp [h1]
      have h4 : ((r == 9002) = false) := by simp [h2]
      go_enter Tryz.func40, Tryz.ntmps40
      go_wp2
      go_ret2
      exact ⟨by rfl, rfl⟩

theorem open_any (r : Int) (w : World) (h0 : -2147483648 ≤ r) (h1 : r ≤ 2147483647) : Calls Tryz.prog 53 #[.int .i32 r] w (Gives (.bool (syl r && decide ((r - 44032) % 28 = 0))) w) := by
  have hc := within_any r 44032 11172 w (by omega) (by omega) (by omega) (by omega)
  by_cases hs : 44032 ≤ r ∧ r < 55204
  · rw [decide_eq_true (by omega)] at hc
    have HC := Lib.hid hc
    have w1 : IntKind.i32.wrap (r - 44032) = r - 44032 := by simp only [IntKind.wrap, IntKind.bits, IntKind.signed]; simp; omega
    have w2 : (r - 44032).tmod 28 = (r - 44032) % 28 := Int.tmod_eq_emod_of_nonneg (by omega)
    have HS : Hid (syl r = true) := Lib.hid (by unfold syl; simp; omega)
    clear hc
    go_enter Tryz.func53, Tryz.ntmps53
    go_wp2_with (first | (go_at_call 52; refine HC.out.mono ?_; rintro e w' ⟨rfl, rfl⟩) | fail)
    go_ret
    exact gives_bool (by rw [HS.out, Bool.true_and]; rfl)
  · rw [decide_eq_false (by omega)] at hc
    have HC := Lib.hid hc
    have HS : Hid (syl r = false) := Lib.hid (by unfold syl; simp; omega)
    clear hc
    go_enter Tryz.func53, Tryz.ntmps53
    go_wp2_with (first | (go_at_call 52; refine HC.out.mono ?_; rintro e w' ⟨rfl, rfl⟩) | fail)
    go_ret
    exact gives_bool (by rw [HS.out]; simp)

/-- two parts as a value -/
def prt (p : Int × Int) : Value := .agg #[.int .i32 p.1, .int .i32 p.2]
def sylV (r : Int) : Value := .tuple #[if syl r then prt (sylParts r) else prt (0, 0), .bool (syl r)]
theorem sylV_yes {r : Int} (h : syl r = true) {p : Int × Int} (hp : sylParts r = p) : sylV r = .tuple #[prt p, .bool true] := by unfold sylV; rw [h, if_pos rfl, hp]
theorem sylV_no {r : Int} (h : syl r = false) : sylV r = .tuple #[prt (0, 0), .bool false] := by unfold sylV; rw [h]; rfl
def Tells (v : Value) (w : World) (e : Ending) (w' : World) : Prop := e = .returned v ∧ Below w.heap.size w w'
theorem box_parts {w : World} {B : Nat} {a b : Value} (h : w.heap[B]? = some (.cells #[a, b] 45 (0, 0))) :
    w.cell? ⟨B, 0, none⟩ = some a ∧ w.cell? ⟨B, 1, none⟩ = some b ∧ w.frozen? ⟨B, 0, none⟩ = false ∧ w.frozen? ⟨B, 1, none⟩ = false := by
  simp [World.cell?, World.frozen?, h]

theorem alloc_heap_new' (w : World) (o : Obj) : (w.alloc o).heap[w.heap.size]? = some o := by
  show (w.heap.push o)[w.heap.size]? = _
  simp
theorem res_syl {w : World} {B : Nat} {a b v : Value} {tmps : Array Value} (h : w.heap[B]? = some (.cells #[a, b] 45 (0, 0))) (t2 : tmps[2]? = some (.pointer (some ⟨B, 0, none⟩)) := by rfl) (t3 : tmps[3]? = some v := by rfl) :
    (results Tryz.f54 tmps).run Tryz.prog w = .ok (.tuple #[.agg #[a, b], v]) w := by
  obtain ⟨c0, c1, _, _⟩ := box_parts h
  simp [results, Tryz.results54, go_sem, c0, c1, t2, t3]
theorem tells_alloc {v : Value} {w : World} (o : Obj) {e : Ending} (h : e = .returned v) : Tells v w e (w.alloc o) := ⟨h, (Below.refl _ w).alloc (Nat.le_refl _) o⟩

set_option maxRecDepth 100000 in
set_option maxHeartbeats 1000000 in
theorem syllable_any (r : Int) (w : World) (h0 : -2147483648 ≤ r) (h1 : r ≤ 2147483647) :
    Calls Tryz.prog 54 #[.int .i32 r] w (Tells (sylV r) w) := by
  by_cases hs : 44032 ≤ r
  · by_cases ht : r < 55204
    · have HS : Hid (syl r = true) := Lib.hid (by unfold syl; simp; omega)
      obtain ⟨x, hx⟩ : ∃ x, r - 44032 = x := ⟨_, rfl⟩
      have hx0 : 0 ≤ x := by omega
      have hx1 : x < 11172 := by omega
      have hm : x.tmod 28 = x % 28 := Int.tmod_eq_emod_of_nonneg hx0
      by_cases hz : x % 28 = 0
      · have HP : Hid (sylParts r = (4352 + x / 28 / 21, 4449 + x / 28 % 21)) := Lib.hid (by unfold sylParts; rw [hx, if_pos hz])
        have hd1 : x.tdiv 28 = x / 28 := Int.tdiv_eq_ediv_of_nonneg hx0
        have hd2 : (x / 28).tdiv 21 = x / 28 / 21 := Int.tdiv_eq_ediv_of_nonneg (by omega)
        have hd3 : (x / 28).tmod 21 = x / 28 % 21 := Int.tmod_eq_emod_of_nonneg (by omega)
        go_enter Tryz.func54, Tryz.ntmps54
        go_wp2
        refine bodyPost_ret (res_syl (alloc_heap_new' w _)) rfl ?_
        exact tells_alloc _ (by rw [sylV_yes HS.out HP.out]; rfl)
      · have HP : Hid (sylParts r = (r - x % 28, 4519 + x % 28)) := Lib.hid (by unfold sylParts; rw [hx, if_neg hz])
        have hzb : ((x % 28) == 0) = false := by simp; omega
        go_enter Tryz.func54, Tryz.ntmps54
        go_wp2
        refine bodyPost_ret (res_syl (alloc_heap_new' w _)) rfl ?_
        exact tells_alloc _ (by rw [sylV_yes HS.out HP.out]; rfl)
    · have HS : Hid (syl r = false) := Lib.hid (by unfold syl; simp; omega)
      have ht2 : 55204 ≤ r := by omega
      go_enter Tryz.func54, Tryz.ntmps54
      go_wp2
      refine bodyPost_ret (res_syl (alloc_heap_new' w _)) rfl ?_
      exact tells_alloc _ (by rw [sylV_no HS.out]; rfl)
  · have HS : Hid (syl r = false) := Lib.hid (by unfold syl; simp; omega)
    have ht2 : r < 44032 := by omega
    go_enter Tryz.func54, Tryz.ntmps54
    go_wp2
    refine bodyPost_ret (res_syl (alloc_heap_new' w _)) rfl ?_
    exact tells_alloc _ (by rw [sylV_no HS.out]; rfl)

theorem tells_allocN {v : Value} {w : World} (o : Obj) (q : Nat) {e : Ending} (h : e = .returned v) : Tells v w e ((w.alloc o).drewN q) := by
  have h1 := (Below.refl _ w).alloc (Nat.le_refl _) o
  exact ⟨h, h1.os, h1.tape, h1.output, h1.size, h1.block⟩
def sylJ (p : Int × Int) : Value := match sylJoin p.1 p.2 with | some r => .tuple #[.int .i32 r, .bool true] | none => .tuple #[.int .i32 0, .bool false]
theorem sylJ_some {a b r : Int} (h : sylJoin a b = some r) : sylJ (a, b) = .tuple #[.int .i32 r, .bool true] := by unfold sylJ; simp only [h]
theorem sylJ_none {a b : Int} (h : sylJoin a b = none) : sylJ (a, b) = .tuple #[.int .i32 0, .bool false] := by unfold sylJ; simp only [h]

set_option maxRecDepth 100000 in
set_option maxHeartbeats 2000000 in
theorem joinSyllable_any (a b : Int) (w : World) (ha0 : -2147483648 ≤ a) (ha1 : a ≤ 2147483647) (hb0 : -2147483648 ≤ b) (hb1 : b ≤ 2147483647) :
    Calls Tryz.prog 38 #[.agg #[.int .i32 a, .int .i32 b]] w (Tells (sylJ (a, b)) w) := by
  by_cases h1 : 4352 ≤ a ∧ a < 4371
  · obtain ⟨h1a, h1b⟩ := h1
    have n1 : a < 44032 := by omega
    by_cases h2 : 4449 ≤ b ∧ b < 4470
    · obtain ⟨h2a, h2b⟩ := h2
      have HR : Hid (sylJoin a b = some (44032 + ((a - 4352) * 21 + (b - 4449)) * 28)) := Lib.hid (by unfold sylJoin; rw [if_pos ⟨h1a, h1b, h2a, h2b⟩])
      go_enter Tryz.func38, Tryz.ntmps38
      go_wp2
      go_quiet (fail)
      go_wp2
      go_ret2
      exact tells_allocN _ _ (by rw [sylJ_some HR.out]; rfl)
    · have HR : Hid (sylJoin a b = none) := Lib.hid (by unfold sylJoin; rw [if_neg (by omega), if_neg (by omega)])
      by_cases h3 : 4449 ≤ b
      · have h4 : 4470 ≤ b := by omega
        go_enter Tryz.func38, Tryz.ntmps38
        go_wp2
        go_ret2
        exact tells_alloc _ (by rw [sylJ_none HR.out]; rfl)
      · have h4 : b < 4449 := by omega
        go_enter Tryz.func38, Tryz.ntmps38
        go_wp2
        go_ret2
        exact tells_alloc _ (by rw [sylJ_none HR.out]; rfl)
  · by_cases h5 : 44032 ≤ a ∧ a < 55204
    · obtain ⟨h5a, h5b⟩ := h5
      have n1 : 4371 ≤ a := by omega
      obtain ⟨x, hx⟩ : ∃ x, a - 44032 = x := ⟨_, rfl⟩
      have hx0 : 0 ≤ x := by omega
      have hm : x.tmod 28 = x % 28 := Int.tmod_eq_emod_of_nonneg hx0
      by_cases hz : x % 28 = 0
      · by_cases h6 : 4520 ≤ b ∧ b < 4547
        · obtain ⟨h6a, h6b⟩ := h6
          have HR : Hid (sylJoin a b = some (a + b - 4519)) := Lib.hid (by unfold sylJoin; rw [if_neg (by omega), if_pos ⟨h5a, by omega, by rw [hx]; exact hz, h6a, h6b⟩])
          go_enter Tryz.func38, Tryz.ntmps38
          go_wp2
          go_ret2
          exact tells_alloc _ (by rw [sylJ_some HR.out]; rfl)
        · have HR : Hid (sylJoin a b = none) := Lib.hid (by unfold sylJoin; rw [if_neg (by omega), if_neg (by omega)])
          by_cases h7 : 4520 ≤ b
          · have h8 : 4547 ≤ b := by omega
            go_enter Tryz.func38, Tryz.ntmps38
            go_wp2
            go_ret2
            exact tells_alloc _ (by rw [sylJ_none HR.out]; rfl)
          · have h8 : b < 4520 := by omega
            go_enter Tryz.func38, Tryz.ntmps38
            go_wp2
            go_ret2
            exact tells_alloc _ (by rw [sylJ_none HR.out]; rfl)
      · have HR : Hid (sylJoin a b = none) := Lib.hid (by unfold sylJoin; rw [if_neg (by omega), if_neg (by rw [hx]; omega)])
        have hzb : ((x % 28) == 0) = false := by simp; omega
        go_enter Tryz.func38, Tryz.ntmps38
        go_wp2
        go_ret2
        exact tells_alloc _ (by rw [sylJ_none HR.out]; rfl)
    · have HR : Hid (sylJoin a b = none) := Lib.hid (by unfold sylJoin; rw [if_neg (by omega), if_neg (by omega)])
      by_cases h7 : a < 4352
      · go_enter Tryz.func38, Tryz.ntmps38
        go_wp2
        go_ret2
        exact tells_alloc _ (by rw [sylJ_none HR.out]; rfl)
      · have h8 : 4371 ≤ a := by omega
        by_cases h9 : a < 44032
        · go_enter Tryz.func38, Tryz.ntmps38
          go_wp2
          go_ret2
          exact tells_alloc _ (by rw [sylJ_none HR.out]; rfl)
        · have h10 : 55204 ≤ a := by omega
          go_enter Tryz.func38, Tryz.ntmps38
          go_wp2
          go_ret2
          exact tells_alloc _ (by rw [sylJ_none HR.out]; rfl)
end Go.Proofs.YtncnagagigalhaaGreatDoor
