import Derived.Test.YtenfdnnagijfnaaGreatDoorRows
import Derived.Test.YtenfdnnagijfnaaGreatDoorWords
import Derived.WalkKit
import Derived.WalkLawsBesides
import Derived.WalkSpells
import Derived.Outline
import Derived.IntWalk
import Derived.Lib.Hide
import Derived.Deep.QuietTactic
import Derived.BigQuiet
import Derived.Test.YtenfdnnagijfnaaGreatDoorStraight
import Derived.Laws.Tables
import Derived.Laws.Rows
import Derived.Deep.DeepCutAuto
import Derived.Deep.LoopGhost
/-
  norm: within, open, syllable, joinSyllable, single.
-/
namespace Go.Proofs.YtenfdnnagijfnaaGreatDoor
open Go.RowKit

namespace Norm
/-- a syllable's parts; a syllable of parts -/
def syl (r : Int) : Bool := decide (44032 ≤ r ∧ r ≤ 55203)
def sylParts (r : Int) : Int × Int := if (r - 44032) % 28 = 0 then (4352 + (r - 44032) / 28 / 21, 4449 + (r - 44032) / 28 % 21) else (r - (r - 44032) % 28, 4519 + (r - 44032) % 28)
def sylJoin (a b : Int) : Option Int :=
  if 4352 ≤ a ∧ a < 4371 ∧ 4449 ≤ b ∧ b < 4470 then some (44032 + ((a - 4352) * 21 + (b - 4449)) * 28)
  else if 44032 ≤ a ∧ a ≤ 55203 ∧ (a - 44032) % 28 = 0 ∧ 4520 ≤ b ∧ b < 4547 then some (a + b - 4519) else none
end Norm
open Norm

def Gives (v : Value) (w : World) (e : Ending) (w' : World) : Prop := e = .returned v ∧ w = w'
theorem gives_bool {a b : Bool} {w : World} (h : a = b) : Gives (.bool b) w (.returned (.bool a)) w := ⟨by rw [h], rfl⟩

theorem within_any (r f c : Int) (w : World) (hf : 0 ≤ f) (hf2 : f ≤ 1000000) (hc : 0 ≤ c) (hc2 : c ≤ 1000000) :
    Calls Tryz.prog 85 #[.int .i32 r, .int .i32 f, .int .i32 c] w (Gives (.bool (decide (f ≤ r ∧ r < f + c))) w) := by
  have w1 : IntKind.i32.wrap (f + c) = f + c := by simp only [IntKind.wrap, IntKind.bits, IntKind.signed]; simp; omega
  by_cases h1 : f ≤ r
  · by_cases h2 : r < f + c
    · go_enter Tryz.func85, Tryz.ntmps85
      go_wp2
      go_ret
      exact gives_bool (by first | (simp; omega) | (simp [h1]; done) | (simp [h1]; omega))
    · go_enter Tryz.func85, Tryz.ntmps85
      go_wp2
      go_ret
      exact gives_bool (by first | (simp; omega) | (simp [h1]; done) | (simp [h1]; omega))
  · go_enter Tryz.func85, Tryz.ntmps85
    go_wp2
    go_ret
    exact gives_bool (by first | (simp; omega) | (simp [h1]; done) | (simp [h1]; omega))

theorem single_any (r : Int) (w : World) : Calls Tryz.prog 57 #[.int .i32 r] w (Gives (.tuple #[.int .i32 (if r = 9001 then 12296 else if r = 9002 then 12297 else 0), .bool (decide (r = 9001 ∨ r = 9002))]) w) := by
  by_cases h1 : r = 9001
  · subst h1
    go_enter Tryz.func57, Tryz.ntmps57
    go_wp2
    go_ret2
    exact ⟨rfl, rfl⟩
  · by_cases h2 : r = 9002
    · subst h2
      go_enter Tryz.func57, Tryz.ntmps57
      go_wp2
      go_ret2
      exact ⟨rfl, rfl⟩
    · have h3 : ((r == 9001) = false) := by simp [h1]
      have h4 : ((r == 9002) = false) := by simp [h2]
      go_enter Tryz.func57, Tryz.ntmps57
      go_wp2
      go_ret2
      exact ⟨by rfl, rfl⟩

theorem open_any (r : Int) (w : World) (h0 : -2147483648 ≤ r) (h1 : r ≤ 2147483647) : Calls Tryz.prog 86 #[.int .i32 r] w (Gives (.bool (syl r && decide ((r - 44032) % 28 = 0))) w) := by
  have hc := within_any r 44032 11172 w (by omega) (by omega) (by omega) (by omega)
  by_cases hs : 44032 ≤ r ∧ r < 55204
  · rw [decide_eq_true (by omega)] at hc
    have HC := Lib.hid hc
    have w1 : IntKind.i32.wrap (r - 44032) = r - 44032 := by simp only [IntKind.wrap, IntKind.bits, IntKind.signed]; simp; omega
    have w2 : (r - 44032).tmod 28 = (r - 44032) % 28 := Int.tmod_eq_emod_of_nonneg (by omega)
    have HS : Hid (syl r = true) := Lib.hid (by unfold syl; simp; omega)
    clear hc
    go_enter Tryz.func86, Tryz.ntmps86
    go_wp2_with (first | (go_at_call 85; refine HC.out.mono ?_; rintro e w' ⟨rfl, rfl⟩) | fail)
    go_ret
    exact gives_bool (by rw [HS.out, Bool.true_and]; rfl)
  · rw [decide_eq_false (by omega)] at hc
    have HC := Lib.hid hc
    have HS : Hid (syl r = false) := Lib.hid (by unfold syl; simp; omega)
    clear hc
    go_enter Tryz.func86, Tryz.ntmps86
    go_wp2_with (first | (go_at_call 85; refine HC.out.mono ?_; rintro e w' ⟨rfl, rfl⟩) | fail)
    go_ret
    exact gives_bool (by rw [HS.out]; simp)

/-- two parts as a value -/
def prt (p : Int × Int) : Value := .agg #[.int .i32 p.1, .int .i32 p.2]
def sylV (r : Int) : Value := .tuple #[if syl r then prt (sylParts r) else prt (0, 0), .bool (syl r)]
theorem sylV_yes {r : Int} (h : syl r = true) {p : Int × Int} (hp : sylParts r = p) : sylV r = .tuple #[prt p, .bool true] := by unfold sylV; rw [h, if_pos rfl, hp]
theorem sylV_no {r : Int} (h : syl r = false) : sylV r = .tuple #[prt (0, 0), .bool false] := by unfold sylV; rw [h]; rfl
def Tells (v : Value) (w : World) (e : Ending) (w' : World) : Prop := e = .returned v ∧ Below w.heap.size w w'
theorem box_parts {w : World} {B : Nat} {a b : Value} (h : w.heap[B]? = some (.cells #[a, b] 52 (0, 0))) :
    w.cell? ⟨B, 0, none⟩ = some a ∧ w.cell? ⟨B, 1, none⟩ = some b ∧ w.frozen? ⟨B, 0, none⟩ = false ∧ w.frozen? ⟨B, 1, none⟩ = false := by
  simp [World.cell?, World.frozen?, h]

theorem alloc_heap_new' (w : World) (o : Obj) : (w.alloc o).heap[w.heap.size]? = some o := by
  show (w.heap.push o)[w.heap.size]? = _
  simp
theorem res_syl {w : World} {B : Nat} {a b v : Value} {tmps : Array Value} (h : w.heap[B]? = some (.cells #[a, b] 52 (0, 0))) (t2 : tmps[2]? = some (.pointer (some ⟨B, 0, none⟩)) := by rfl) (t3 : tmps[3]? = some v := by rfl) :
    (results Tryz.f87 tmps).run Tryz.prog w = .ok (.tuple #[.agg #[a, b], v]) w := by
  obtain ⟨c0, c1, _, _⟩ := box_parts h
  simp [results, Tryz.results87, go_sem, c0, c1, t2, t3]
theorem tells_alloc {v : Value} {w : World} (o : Obj) {e : Ending} (h : e = .returned v) : Tells v w e (w.alloc o) := ⟨h, (Below.refl _ w).alloc (Nat.le_refl _) o⟩

set_option maxRecDepth 100000 in
set_option maxHeartbeats 1000000 in
theorem syllable_any (r : Int) (w : World) (h0 : -2147483648 ≤ r) (h1 : r ≤ 2147483647) :
    Calls Tryz.prog 87 #[.int .i32 r] w (Tells (sylV r) w) := by
  by_cases hs : 44032 ≤ r
  · by_cases ht : r < 55204
    · have HS : Hid (syl r = true) := Lib.hid (by unfold syl; simp; omega)
      obtain ⟨x, hx⟩ : ∃ x, r - 44032 = x := ⟨_, rfl⟩
      have hx0 : 0 ≤ x := by omega
      have hx1 : x < 11172 := by omega
      have hm : x.tmod 28 = x % 28 := Int.tmod_eq_emod_of_nonneg hx0
      by_cases hz : x % 28 = 0
      · have HP : Hid (sylParts r = (4352 + x / 28 / 21, 4449 + x / 28 % 21)) := Lib.hid (by unfold sylParts; rw [hx, if_pos hz])
        have hd1 : x.tdiv 28 = x / 28 := Int.tdiv_eq_ediv_of_nonneg hx0
        have hd2 : (x / 28).tdiv 21 = x / 28 / 21 := Int.tdiv_eq_ediv_of_nonneg (by omega)
        have hd3 : (x / 28).tmod 21 = x / 28 % 21 := Int.tmod_eq_emod_of_nonneg (by omega)
        go_enter Tryz.func87, Tryz.ntmps87
        go_wp2
        refine bodyPost_ret (res_syl (alloc_heap_new' w _)) rfl ?_
        exact tells_alloc _ (by rw [sylV_yes HS.out HP.out]; rfl)
      · have HP : Hid (sylParts r = (r - x % 28, 4519 + x % 28)) := Lib.hid (by unfold sylParts; rw [hx, if_neg hz])
        have hzb : ((x % 28) == 0) = false := by simp; omega
        go_enter Tryz.func87, Tryz.ntmps87
        go_wp2
        refine bodyPost_ret (res_syl (alloc_heap_new' w _)) rfl ?_
        exact tells_alloc _ (by rw [sylV_yes HS.out HP.out]; rfl)
    · have HS : Hid (syl r = false) := Lib.hid (by unfold syl; simp; omega)
      have ht2 : 55204 ≤ r := by omega
      go_enter Tryz.func87, Tryz.ntmps87
      go_wp2
      refine bodyPost_ret (res_syl (alloc_heap_new' w _)) rfl ?_
      exact tells_alloc _ (by rw [sylV_no HS.out]; rfl)
  · have HS : Hid (syl r = false) := Lib.hid (by unfold syl; simp; omega)
    have ht2 : r < 44032 := by omega
    go_enter Tryz.func87, Tryz.ntmps87
    go_wp2
    refine bodyPost_ret (res_syl (alloc_heap_new' w _)) rfl ?_
    exact tells_alloc _ (by rw [sylV_no HS.out]; rfl)

theorem tells_allocN {v : Value} {w : World} (o : Obj) (q : Nat) {e : Ending} (h : e = .returned v) : Tells v w e ((w.alloc o).drewN q) := by
  have h1 := (Below.refl _ w).alloc (Nat.le_refl _) o
  exact ⟨h, h1.os, h1.tape, h1.output, h1.size, h1.block⟩
def sylJ (p : Int × Int) : Value := match sylJoin p.1 p.2 with | some r => .tuple #[.int .i32 r, .bool true] | none => .tuple #[.int .i32 0, .bool false]
theorem sylJ_some {a b r : Int} (h : sylJoin a b = some r) : sylJ (a, b) = .tuple #[.int .i32 r, .bool true] := by unfold sylJ; simp only [h]
theorem sylJ_none {a b : Int} (h : sylJoin a b = none) : sylJ (a, b) = .tuple #[.int .i32 0, .bool false] := by unfold sylJ; simp only [h]

set_option maxRecDepth 100000 in
set_option maxHeartbeats 2000000 in
theorem joinSyllable_any (a b : Int) (w : World) (ha0 : -2147483648 ≤ a) (ha1 : a ≤ 2147483647) (hb0 : -2147483648 ≤ b) (hb1 : b ≤ 2147483647) :
    Calls Tryz.prog 55 #[.agg #[.int .i32 a, .int .i32 b]] w (Tells (sylJ (a, b)) w) := by
  by_cases h1 : 4352 ≤ a ∧ a < 4371
  · obtain ⟨h1a, h1b⟩ := h1
    have n1 : a < 44032 := by omega
    by_cases h2 : 4449 ≤ b ∧ b < 4470
    · obtain ⟨h2a, h2b⟩ := h2
      have HR : Hid (sylJoin a b = some (44032 + ((a - 4352) * 21 + (b - 4449)) * 28)) := Lib.hid (by unfold sylJoin; rw [if_pos ⟨h1a, h1b, h2a, h2b⟩])
      go_enter Tryz.func55, Tryz.ntmps55
      go_wp2
      go_quiet (fail)
      go_wp2
      go_ret2
      exact tells_allocN _ _ (by rw [sylJ_some HR.out]; rfl)
    · have HR : Hid (sylJoin a b = none) := Lib.hid (by unfold sylJoin; rw [if_neg (by omega), if_neg (by omega)])
      by_cases h3 : 4449 ≤ b
      · have h4 : 4470 ≤ b := by omega
        go_enter Tryz.func55, Tryz.ntmps55
        go_wp2
        go_ret2
        exact tells_alloc _ (by rw [sylJ_none HR.out]; rfl)
      · have h4 : b < 4449 := by omega
        go_enter Tryz.func55, Tryz.ntmps55
        go_wp2
        go_ret2
        exact tells_alloc _ (by rw [sylJ_none HR.out]; rfl)
  · by_cases h5 : 44032 ≤ a ∧ a < 55204
    · obtain ⟨h5a, h5b⟩ := h5
      have n1 : 4371 ≤ a := by omega
      obtain ⟨x, hx⟩ : ∃ x, a - 44032 = x := ⟨_, rfl⟩
      have hx0 : 0 ≤ x := by omega
      have hm : x.tmod 28 = x % 28 := Int.tmod_eq_emod_of_nonneg hx0
      by_cases hz : x % 28 = 0
      · by_cases h6 : 4520 ≤ b ∧ b < 4547
        · obtain ⟨h6a, h6b⟩ := h6
          have HR : Hid (sylJoin a b = some (a + b - 4519)) := Lib.hid (by unfold sylJoin; rw [if_neg (by omega), if_pos ⟨h5a, by omega, by rw [hx]; exact hz, h6a, h6b⟩])
          go_enter Tryz.func55, Tryz.ntmps55
          go_wp2
          go_ret2
          exact tells_alloc _ (by rw [sylJ_some HR.out]; rfl)
        · have HR : Hid (sylJoin a b = none) := Lib.hid (by unfold sylJoin; rw [if_neg (by omega), if_neg (by omega)])
          by_cases h7 : 4520 ≤ b
          · have h8 : 4547 ≤ b := by omega
            go_enter Tryz.func55, Tryz.ntmps55
            go_wp2
            go_ret2
            exact tells_alloc _ (by rw [sylJ_none HR.out]; rfl)
          · have h8 : b < 4520 := by omega
            go_enter Tryz.func55, Tryz.ntmps55
            go_wp2
            go_ret2
            exact tells_alloc _ (by rw [sylJ_none HR.out]; rfl)
      · have HR : Hid (sylJoin a b = none) := Lib.hid (by unfold sylJoin; rw [if_neg (by omega), if_neg (by rw [hx]; omega)])
        have hzb : ((x % 28) == 0) = false := by simp; omega
        go_enter Tryz.func55, Tryz.ntmps55
        go_wp2
        go_ret2
        exact tells_alloc _ (by rw [sylJ_none HR.out]; rfl)
    · have HR : Hid (sylJoin a b = none) := Lib.hid (by unfold sylJoin; rw [if_neg (by omega), if_neg (by omega)])
      by_cases h7 : a < 4352
      · go_enter Tryz.func55, Tryz.ntmps55
        go_wp2
        go_ret2
        exact tells_alloc _ (by rw [sylJ_none HR.out]; rfl)
      · have h8 : 4371 ≤ a := by omega
        by_cases h9 : a < 44032
        · go_enter Tryz.func55, Tryz.ntmps55
          go_wp2
          go_ret2
          exact tells_alloc _ (by rw [sylJ_none HR.out]; rfl)
        · have h10 : 55204 ≤ a := by omega
          go_enter Tryz.func55, Tryz.ntmps55
          go_wp2
          go_ret2
          exact tells_alloc _ (by rw [sylJ_none HR.out]; rfl)
end Go.Proofs.YtenfdnnagijfnaaGreatDoor

/-
  norm: the pairs, as the program lays them.
-/
namespace Go.Proofs.YtenfdnnagijfnaaGreatDoor
open Go.RowKit Norm

namespace Norm
/-- whole, first, second -/
def tabP : List (Int × Int × Int) := [(192, 65, 768), (193, 65, 769), (194, 65, 770), (195, 65, 771), (196, 65, 776), (197, 65, 778), (199, 67, 807), (200, 69, 768), (201, 69, 769), (202, 69, 770), (203, 69, 776), (204, 73, 768), (205, 73, 769), (206, 73, 770), (207, 73, 776), (209, 78, 771), (210, 79, 768), (211, 79, 769), (212, 79, 770), (213, 79, 771), (214, 79, 776), (217, 85, 768), (218, 85, 769), (219, 85, 770), (220, 85, 776), (221, 89, 769), (224, 97, 768), (225, 97, 769), (226, 97, 770), (227, 97, 771), (228, 97, 776), (229, 97, 778), (231, 99, 807), (232, 101, 768), (233, 101, 769), (234, 101, 770), (235, 101, 776), (236, 105, 768), (237, 105, 769), (238, 105, 770), (239, 105, 776), (241, 110, 771), (242, 111, 768), (243, 111, 769), (244, 111, 770), (245, 111, 771), (246, 111, 776), (249, 117, 768), (250, 117, 769), (251, 117, 770), (252, 117, 776), (253, 121, 769), (255, 121, 776), (471, 220, 769), (472, 252, 769), (902, 913, 769), (904, 917, 769), (905, 919, 769), (906, 921, 769), (940, 945, 769), (941, 949, 769), (942, 951, 769), (943, 953, 769), (1025, 1045, 776), (1105, 1077, 776), (1570, 1575, 1619), (1571, 1575, 1620), (1572, 1608, 1620), (1573, 1575, 1621), (1574, 1610, 1620), (2345, 2344, 2364), (2353, 2352, 2364), (2356, 2355, 2364), (12364, 12363, 12441), (12366, 12365, 12441), (12368, 12367, 12441), (12370, 12369, 12441), (12372, 12371, 12441), (12460, 12459, 12441), (12462, 12461, 12441), (12464, 12463, 12441)]
end Norm
/-- the pairs as cells -/
def PC : Array Value := (tabP.flatMap fun p => [Value.int .i32 p.1, .int .i32 p.2.1, .int .i32 p.2.2]).toArray
def PZ : Array Value := (List.replicate 243 (Value.int .i32 0)).toArray

theorem wpList_straight_then {P : Program} {ops : Array Oper} {Q : Exit → Act → World → Prop} (l2 : List Oper) : ∀ (l : List Oper) (a : Act) (w : World) (a' : Act) (w' : World), straight P l a w = some (a', w') → wpList P ops Q l2 a' w' → wpList P ops Q (l ++ l2) a w
  | [], a, w, a', w', h, hQ => by
    simp only [straight, Option.some.injEq, Prod.mk.injEq] at h
    obtain ⟨rfl, rfl⟩ := h
    exact hQ
  | o :: rest, a, w, a', w', h, hQ => by
    unfold straight at h
    split at h
    · cases h
    · rename_i hg
      split at h
      · rename_i v w1 hr
        refine wpList_plain hg fun K hK => ?_
        unfold Oper.wp
        rw [hr]
        exact hK _ _ (wpList_straight_then l2 rest _ _ a' w' h hQ)
      · cases h
theorem wpList_straight_n {P : Program} {ops : Array Oper} {Q : Exit → Act → World → Prop} (n : Nat) (l : List Oper) (a : Act) (w : World) (a' : Act) (w' : World) (h : straight P (l.take n) a w = some (a', w')) (hQ : wpList P ops Q (l.drop n) a' w') : wpList P ops Q l a w := by
  have := wpList_straight_then (l.drop n) (l.take n) a w a' w' h hQ
  rwa [List.take_append_drop] at this
theorem setRow_alloc (w : World) (t : TypeId) (old cs : Array Value) : (w.alloc (.cells old t)).setRow w.heap.size cs = w.alloc (.cells cs t) := by
  unfold World.setRow World.alloc
  congr 1
  apply Array.ext
  · simp
  · intro i h1 h2
    simp only [Array.getElem_modify]
    split
    · rename_i hk; subst hk; simp
    · rename_i hk
      simp only [Array.size_modify, Array.size_push] at h1
      rw [Array.getElem_push_lt (by omega), Array.getElem_push_lt (by omega)]

set_option maxRecDepth 100000 in
set_option maxHeartbeats 4000000 in
theorem pairs_any (w : World) : Calls Tryz.prog 56 #[] w fun e w' => e = .returned (.agg PC) ∧ w' = w.alloc (.cells PC 79) := by
  refine calls_of_wp Tryz.func56 rfl ?_
  refine wp_seq (wp_region_list (wpList_straight _ _ _ _ _ (show straight _ _ _ _ = some ({ tmps := #[.pointer (some ⟨w.heap.size, 0, none⟩), undef, undef, undef, undef, undef, undef, undef, undef, undef, undef, undef, undef, undef, undef, undef, undef, undef, undef, undef, undef, undef, undef, undef, undef, undef, undef, undef, undef, undef, undef, undef, undef, undef, undef, undef, undef, undef, undef, undef, undef, undef, undef, undef, undef, undef, undef, undef, undef, undef, undef, undef, undef, undef, undef, undef, undef, undef, undef, undef, undef, undef, undef, undef, undef, undef, undef, undef, undef, undef, undef, undef, undef, undef, undef, undef, undef, undef, undef, undef, undef, undef, undef], defers := [] }, w.alloc (.cells PZ 79)) from by kernel_rfl) ?_))
  refine wp_seq (wp_region_list (wpList_straight_n 82 _ _ _ _ _ (show straight _ _ _ _ = some ({ tmps := #[.pointer (some ⟨w.heap.size, 0, none⟩), .agg #[.int .i32 192, .int .i32 65, .int .i32 768], .agg #[.int .i32 193, .int .i32 65, .int .i32 769], .agg #[.int .i32 194, .int .i32 65, .int .i32 770], .agg #[.int .i32 195, .int .i32 65, .int .i32 771], .agg #[.int .i32 196, .int .i32 65, .int .i32 776], .agg #[.int .i32 197, .int .i32 65, .int .i32 778], .agg #[.int .i32 199, .int .i32 67, .int .i32 807], .agg #[.int .i32 200, .int .i32 69, .int .i32 768], .agg #[.int .i32 201, .int .i32 69, .int .i32 769], .agg #[.int .i32 202, .int .i32 69, .int .i32 770], .agg #[.int .i32 203, .int .i32 69, .int .i32 776], .agg #[.int .i32 204, .int .i32 73, .int .i32 768], .agg #[.int .i32 205, .int .i32 73, .int .i32 769], .agg #[.int .i32 206, .int .i32 73, .int .i32 770], .agg #[.int .i32 207, .int .i32 73, .int .i32 776], .agg #[.int .i32 209, .int .i32 78, .int .i32 771], .agg #[.int .i32 210, .int .i32 79, .int .i32 768], .agg #[.int .i32 211, .int .i32 79, .int .i32 769], .agg #[.int .i32 212, .int .i32 79, .int .i32 770], .agg #[.int .i32 213, .int .i32 79, .int .i32 771], .agg #[.int .i32 214, .int .i32 79, .int .i32 776], .agg #[.int .i32 217, .int .i32 85, .int .i32 768], .agg #[.int .i32 218, .int .i32 85, .int .i32 769], .agg #[.int .i32 219, .int .i32 85, .int .i32 770], .agg #[.int .i32 220, .int .i32 85, .int .i32 776], .agg #[.int .i32 221, .int .i32 89, .int .i32 769], .agg #[.int .i32 224, .int .i32 97, .int .i32 768], .agg #[.int .i32 225, .int .i32 97, .int .i32 769], .agg #[.int .i32 226, .int .i32 97, .int .i32 770], .agg #[.int .i32 227, .int .i32 97, .int .i32 771], .agg #[.int .i32 228, .int .i32 97, .int .i32 776], .agg #[.int .i32 229, .int .i32 97, .int .i32 778], .agg #[.int .i32 231, .int .i32 99, .int .i32 807], .agg #[.int .i32 232, .int .i32 101, .int .i32 768], .agg #[.int .i32 233, .int .i32 101, .int .i32 769], .agg #[.int .i32 234, .int .i32 101, .int .i32 770], .agg #[.int .i32 235, .int .i32 101, .int .i32 776], .agg #[.int .i32 236, .int .i32 105, .int .i32 768], .agg #[.int .i32 237, .int .i32 105, .int .i32 769], .agg #[.int .i32 238, .int .i32 105, .int .i32 770], .agg #[.int .i32 239, .int .i32 105, .int .i32 776], .agg #[.int .i32 241, .int .i32 110, .int .i32 771], .agg #[.int .i32 242, .int .i32 111, .int .i32 768], .agg #[.int .i32 243, .int .i32 111, .int .i32 769], .agg #[.int .i32 244, .int .i32 111, .int .i32 770], .agg #[.int .i32 245, .int .i32 111, .int .i32 771], .agg #[.int .i32 246, .int .i32 111, .int .i32 776], .agg #[.int .i32 249, .int .i32 117, .int .i32 768], .agg #[.int .i32 250, .int .i32 117, .int .i32 769], .agg #[.int .i32 251, .int .i32 117, .int .i32 770], .agg #[.int .i32 252, .int .i32 117, .int .i32 776], .agg #[.int .i32 253, .int .i32 121, .int .i32 769], .agg #[.int .i32 255, .int .i32 121, .int .i32 776], .agg #[.int .i32 471, .int .i32 220, .int .i32 769], .agg #[.int .i32 472, .int .i32 252, .int .i32 769], .agg #[.int .i32 902, .int .i32 913, .int .i32 769], .agg #[.int .i32 904, .int .i32 917, .int .i32 769], .agg #[.int .i32 905, .int .i32 919, .int .i32 769], .agg #[.int .i32 906, .int .i32 921, .int .i32 769], .agg #[.int .i32 940, .int .i32 945, .int .i32 769], .agg #[.int .i32 941, .int .i32 949, .int .i32 769], .agg #[.int .i32 942, .int .i32 951, .int .i32 769], .agg #[.int .i32 943, .int .i32 953, .int .i32 769], .agg #[.int .i32 1025, .int .i32 1045, .int .i32 776], .agg #[.int .i32 1105, .int .i32 1077, .int .i32 776], .agg #[.int .i32 1570, .int .i32 1575, .int .i32 1619], .agg #[.int .i32 1571, .int .i32 1575, .int .i32 1620], .agg #[.int .i32 1572, .int .i32 1608, .int .i32 1620], .agg #[.int .i32 1573, .int .i32 1575, .int .i32 1621], .agg #[.int .i32 1574, .int .i32 1610, .int .i32 1620], .agg #[.int .i32 2345, .int .i32 2344, .int .i32 2364], .agg #[.int .i32 2353, .int .i32 2352, .int .i32 2364], .agg #[.int .i32 2356, .int .i32 2355, .int .i32 2364], .agg #[.int .i32 12364, .int .i32 12363, .int .i32 12441], .agg #[.int .i32 12366, .int .i32 12365, .int .i32 12441], .agg #[.int .i32 12368, .int .i32 12367, .int .i32 12441], .agg #[.int .i32 12370, .int .i32 12369, .int .i32 12441], .agg #[.int .i32 12372, .int .i32 12371, .int .i32 12441], .agg #[.int .i32 12460, .int .i32 12459, .int .i32 12441], .agg #[.int .i32 12462, .int .i32 12461, .int .i32 12441], .agg #[.int .i32 12464, .int .i32 12463, .int .i32 12441], .agg PC], defers := [] }, w.alloc (.cells PZ 79)) from by kernel_rfl) ?_))
  refine wpList_plain rfl fun K hK => ?_
  refine wp_store_row 79 _ _ rfl w.heap.size PC rfl rfl 79 PZ (heap_alloc_new w _) (by kernel_rfl) (by kernel_rfl) (by kernel_rfl) ?_
  refine hK _ _ ?_
  rw [setRow_alloc]
  show Code.wp _ _ _ _ _
  refine wp_ret ?_
  refine bodyPost_ret (results_cell_row rfl _ _ w.heap.size 79 PC (0, 0) _ rfl (heap_alloc_new w _) Tryz.underlying79 (by kernel_rfl) (by kernel_rfl)) rfl ?_
  exact ⟨rfl, rfl⟩
end Go.Proofs.YtenfdnnagijfnaaGreatDoor

/-
  norm: cmp.Compare at code points; the pairs in order; which pair a code point is.
-/
namespace Go.Proofs.YtenfdnnagijfnaaGreatDoor
open Go.RowKit Norm

def cmpZ (x y : Int) : Int := if x < y then -1 else if y < x then 1 else 0
theorem cmpR_any (x y : Int) (w : World) : Calls Tryz.prog 112 #[.int .i32 x, .int .i32 y] w (Gives (.int .i64 (cmpZ x y)) w) := by
  by_cases h1 : x < y
  · have HC : Hid (cmpZ x y = -1) := Lib.hid (by unfold cmpZ; rw [if_pos h1])
    go_enter Tryz.func112, Tryz.ntmps112
    go_wp2
    go_ret
    exact ⟨by rw [HC.out]; rfl, rfl⟩
  · by_cases h2 : y < x
    · have HC : Hid (cmpZ x y = 1) := Lib.hid (by unfold cmpZ; rw [if_neg h1, if_pos h2])
      go_enter Tryz.func112, Tryz.ntmps112
      go_wp2
      go_ret
      exact ⟨by rw [HC.out]; rfl, rfl⟩
    · have HC : Hid (cmpZ x y = 0) := Lib.hid (by unfold cmpZ; rw [if_neg h1, if_neg h2])
      go_enter Tryz.func112, Tryz.ntmps112
      go_wp2
      go_ret
      exact ⟨by rw [HC.out]; rfl, rfl⟩

theorem pairCmp_any (a b c r : Int) (w : World) : Calls Tryz.prog 111 #[.agg #[.int .i32 a, .int .i32 b, .int .i32 c], .int .i32 r] w (Tells (.int .i64 (cmpZ a r)) w) := by
  have HC := Lib.hid (fun w => cmpR_any a r w)
  go_enter Tryz.func111, Tryz.ntmps111
  go_wp2_with (first | (go_at_call 112; refine (HC.out _).mono ?_; rintro e w' ⟨rfl, rfl⟩) | fail)
  go_ret
  exact tells_alloc _ rfl

/-- the pairs lie in block B -/
def PairsAt (w : World) (B : Nat) : Prop := w.heap[B]? = some (.cells PC 79 (0, 0))
theorem PairsAt.below {w w' : World} {B : Nat} (h : PairsAt w B) (hb : Below w.heap.size w w') : PairsAt w' B := (hb.block B (Array.getElem?_eq_some_iff.1 h).1).trans h
/-- a pair's whole -/
def wh (i : Nat) : Int := (tabP.getD i (0, 0, 0)).1
def p1 (i : Nat) : Int := (tabP.getD i (0, 0, 0)).2.1
def p2 (i : Nat) : Int := (tabP.getD i (0, 0, 0)).2.2
theorem pairs_cells : ∀ i, i < 81 → PC[3 * i]? = some (.int .i32 (wh i)) ∧ PC[3 * i + 1]? = some (.int .i32 (p1 i)) ∧ PC[3 * i + 2]? = some (.int .i32 (p2 i)) := by
  have h : ∀ i ∈ List.range 81, PC[3 * i]? = some (.int .i32 (wh i)) ∧ PC[3 * i + 1]? = some (.int .i32 (p1 i)) ∧ PC[3 * i + 2]? = some (.int .i32 (p2 i)) := by
    have hb : (List.range 81).all (fun i => (match PC[3 * i]? with | some (.int .i32 n) => n == wh i | _ => false) && (match PC[3 * i + 1]? with | some (.int .i32 n) => n == p1 i | _ => false) && (match PC[3 * i + 2]? with | some (.int .i32 n) => n == p2 i | _ => false)) = true := by kernel_rfl
    intro i hi
    have := List.all_eq_true.1 hb i hi
    simp only [Bool.and_eq_true] at this
    obtain ⟨⟨h1, h2⟩, h3⟩ := this
    refine ⟨?_, ?_, ?_⟩
    · split at h1
      · rename_i n hn; rw [hn, eq_of_beq h1]
      · cases h1
    · split at h2
      · rename_i n hn; rw [hn, eq_of_beq h2]
      · cases h2
    · split at h3
      · rename_i n hn; rw [hn, eq_of_beq h3]
      · cases h3
  exact fun i hi => h i (List.mem_range.2 hi)
theorem wh_rise : ∀ i j, i < j → j < 81 → wh i < wh j := by
  have h : (List.range 81).all (fun j => (List.range j).all fun i => decide (wh i < wh j)) = true := by kernel_rfl
  intro i j hij hj
  have h1 := List.all_eq_true.1 h j (List.mem_range.2 hj)
  have h2 := List.all_eq_true.1 h1 i (List.mem_range.2 hij)
  simpa using h2
theorem PairsAt.cells {w : World} {B i : Nat} (h : PairsAt w B) (hi : i < 81) : w.cell? ⟨B, i * 3, none⟩ = some (.int .i32 (wh i)) ∧ w.cell? ⟨B, i * 3 + 1, none⟩ = some (.int .i32 (p1 i)) ∧ w.cell? ⟨B, i * 3 + 2, none⟩ = some (.int .i32 (p2 i)) := by
  rw [Nat.mul_comm i 3]
  obtain ⟨h1, h2, h3⟩ := pairs_cells i hi
  exact ⟨by rw [cell_of_row w B _ PC _ _ h]; exact h1, by rw [cell_of_row w B _ PC _ _ h]; exact h2, by rw [cell_of_row w B _ PC _ _ h]; exact h3⟩

/-- the place where r is looked for -/
def At (r : Int) (i : Nat) : Prop := (∀ t, t < i → wh t < r) ∧ ∀ t, i ≤ t → t < 81 → r ≤ wh t
def Found (r : Int) (w : World) (e : Ending) (w' : World) : Prop := ∃ i : Nat, i ≤ 81 ∧ At r i ∧ e = .returned (.tuple #[.int .i64 (i : Int), .bool (decide (i < 81 ∧ wh i = r))]) ∧ Below w.heap.size w w'

set_option maxRecDepth 100000 in
set_option maxHeartbeats 2000000 in
theorem search_any (B : Nat) (r : Int) (w : World) (hP : PairsAt w B) :
    Calls Tryz.prog 110 #[.slice (some ⟨B, 0, none⟩) 81 81, .int .i32 r, .func (.func 111) #[] #[]] w (Found r w) := by
  go_enter Tryz.func110, Tryz.ntmps110
  go_wp2
  go_loopg [9, 10] 81 (fun k s9 s10 wr => ∃ i j : Nat, s9 = .int .i64 (i : Int) ∧ s10 = .int .i64 (j : Int) ∧ k = j - i ∧ i ≤ j ∧ j ≤ 81 ∧ Hid (∀ t, t < i → wh t < r) ∧ Hid (∀ t, j ≤ t → t < 81 → r ≤ wh t) ∧ Below w.heap.size w wr)
  case atStart => exact ⟨0, 81, rfl, rfl, rfl, by omega, by omega, Lib.hid (fun t ht => by omega), Lib.hid (fun t h1 h2 => by omega), Below.refl _ _⟩
  case round =>
    obtain ⟨i, j, rfl, rfl, rfl, hij, hj, H1, H2, hB⟩ := hrel
    by_cases hlt : i < j
    · obtain ⟨m, hm⟩ : ∃ m, m = (i + j) / 2 := ⟨_, rfl⟩
      have hmi : i ≤ m := by omega
      have hmj : m < j := by omega
      have hcast : ((i : Int) + (j : Int)) / 2 = (m : Int) := by omega
      clear hm
      go_upto_region 4 with fail
      go_cut [11] from 15 to 34 (fun s11 wx => s11 = .int .i64 (m : Int) ∧ wx = wr)
      case first =>
        go_wp2_with fail
        go_meet
        exact ⟨by first | rfl | go_num, rfl⟩
      case rest =>
        obtain ⟨rfl, hwc⟩ := hcut
        rw [hwc]
        clear hwc hcast
        have hPr := hP.below hB
        obtain ⟨c0, c1, c2⟩ := hPr.cells (i := m) (by omega)
        have hm81 : (m : Int) < 81 := by omega
        have HPC := Lib.hid (pairCmp_any (wh m) (p1 m) (p2 m) r wr)
        by_cases hwm : wh m < r
        · have hz : cmpZ (wh m) r < 0 := by unfold cmpZ; rw [if_pos hwm]; omega
          go_wp2_with (first | (go_at_call 111; refine HPC.out.mono ?_; rintro e w2 ⟨rfl, hB2⟩) | fail)
          go_roundg (j - (m + 1))
          case measure => omega
          case rel => exact ⟨m + 1, j, by go_num, rfl, rfl, by omega, by omega, Lib.hid (fun t ht => by
            rcases Nat.lt_or_ge t m with h | h
            · exact Int.lt_trans (wh_rise t m h (by omega)) hwm
            · obtain rfl : t = m := by omega
              exact hwm), H2, hB.trans (hB2.mono hB.size)⟩
        · have hz : ¬ cmpZ (wh m) r < 0 := by unfold cmpZ; rw [if_neg hwm]; split <;> omega
          go_wp2_with (first | (go_at_call 111; refine HPC.out.mono ?_; rintro e w2 ⟨rfl, hB2⟩) | fail)
          go_roundg (m - i)
          case measure => omega
          case rel => exact ⟨i, m, rfl, rfl, rfl, by omega, by omega, H1, Lib.hid (fun t h1 h2 => by
            rcases Nat.lt_or_ge m t with h | h
            · exact Int.le_of_lt (Int.lt_of_le_of_lt (hwm) (wh_rise m t h h2))
            · obtain rfl : t = m := by omega
              exact hwm), hB.trans (hB2.mono hB.size)⟩
    · obtain rfl : i = j := by omega
      have HAt : Hid (At r i) := Lib.hid ⟨H1.out, H2.out⟩
      have hPr := hP.below hB
      by_cases h81 : i < 81
      · obtain ⟨c0, c1, c2⟩ := hPr.cells (i := i) h81
        have h81z : (i : Int) < 81 := by omega
        have HPC := Lib.hid (pairCmp_any (wh i) (p1 i) (p2 i) r wr)
        have hge : r ≤ wh i := H2.out i (Nat.le_refl _) h81
        have HB2 : Hid ((cmpZ (wh i) r == 0) = decide (i < 81 ∧ wh i = r)) := Lib.hid (by
          unfold cmpZ
          rw [if_neg (by omega)]
          by_cases he : wh i = r
          · rw [if_neg (by omega), decide_eq_true ⟨h81, he⟩]; rfl
          · rw [if_pos (by omega), decide_eq_false (fun h => he h.2)]; rfl)
        clear H1 H2 hP hPr hge
        go_wp2_with (first | (go_at_call 111; refine HPC.out.mono ?_; rintro e w2 ⟨rfl, hB2⟩) | fail)
        go_ret2
        exact ⟨i, by omega, HAt.out, by rw [HB2.out]; rfl, hB.trans (hB2.mono hB.size)⟩
      · have h81z : ¬ (i : Int) < 81 := by omega
        go_wp2_with fail
        go_ret2
        exact ⟨i, by omega, HAt.out, by rw [decide_eq_false (fun h => h81 h.1)]; rfl, hB⟩
end Go.Proofs.YtenfdnnagijfnaaGreatDoor
