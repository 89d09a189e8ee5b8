/-
  remap: the ranges, and which of them has a code point.
-/
import Derived.Test.YtenfdnnagijfnaaGreatDoorNormU
import Derived.Handy
namespace Remap
/-- from, to, what the first one is mapped to -/
def shL : List (Int × Int × Int) := [(65, 90, 97), (160, 160, 32), (192, 214, 224), (216, 222, 248), (338, 338, 339), (471, 471, 472), (902, 902, 940), (904, 906, 941), (913, 929, 945), (931, 937, 963), (1025, 1025, 1105), (1030, 1030, 1110), (1040, 1071, 1072), (9001, 9002, 12296), (12290, 12290, 46), (65288, 65289, 40), (65294, 65295, 46), (65296, 65305, 48), (65306, 65306, 58), (65313, 65338, 97), (65345, 65370, 97)]
def igL : List (Int × Int) := [(173, 173), (8203, 8203), (65038, 65039), (65279, 65279)]
def baL : List (Int × Int) := [(128, 159), (1564, 1564), (8206, 8207), (8232, 8233), (8234, 8238), (8294, 8297), (65533, 65533)]
def inS (r : Int) (s : Int × Int × Int) : Bool := decide (s.1 ≤ r ∧ r ≤ s.2.1)
def inP (r : Int) (p : Int × Int) : Bool := decide (p.1 ≤ r ∧ r ≤ p.2)
end Remap
namespace Go.Proofs.YtenfdnnagijfnaaGreatDoor
open Go.RowKit Norm Remap

def cP (l : List (Int × Int)) : List Value := l.flatMap fun p => [.int .i32 p.1, .int .i32 p.2]
def cS (l : List (Int × Int × Int)) : List Value := l.flatMap fun s => [.int .i32 s.1, .int .i32 s.2.1, .int .i32 s.2.2]
theorem cP_get : ∀ (l : List (Int × Int)) (i : Nat), i < l.length → (cP l)[i * 2]? = some (.int .i32 l[i]!.1) ∧ (cP l)[i * 2 + 1]? = some (.int .i32 l[i]!.2)
  | x :: t, 0, _ => ⟨rfl, rfl⟩
  | x :: t, i + 1, h => by
    have := cP_get t i (by simpa using h)
    have e : cP (x :: t) = .int .i32 x.1 :: .int .i32 x.2 :: cP t := rfl
    rw [e, show (i + 1) * 2 = i * 2 + 1 + 1 from by omega]
    simpa using this
theorem cS_get : ∀ (l : List (Int × Int × Int)) (i : Nat), i < l.length → (cS l)[i * 3]? = some (.int .i32 l[i]!.1) ∧ (cS l)[i * 3 + 1]? = some (.int .i32 l[i]!.2.1) ∧ (cS l)[i * 3 + 2]? = some (.int .i32 l[i]!.2.2)
  | x :: t, 0, _ => ⟨rfl, rfl, rfl⟩
  | x :: t, i + 1, h => by
    have := cS_get t i (by simpa using h)
    have e : cS (x :: t) = .int .i32 x.1 :: .int .i32 x.2.1 :: .int .i32 x.2.2 :: cS t := rfl
    rw [e, show (i + 1) * 3 = i * 3 + 1 + 1 + 1 from by omega]
    simpa using this
def TabW (w : World) (n : Nat) (cs : List Value) (t : TypeId) (e : Ending) (w' : World) : Prop := e = .returned (.slice (some ⟨w.heap.size, 0, none⟩) n n) ∧ w' = w.alloc (.cells cs.toArray t)
set_option maxRecDepth 100000 in
set_option maxHeartbeats 1000000 in
theorem ignored_any (w : World) : Calls Tryz.prog 70 #[] w (TabW w 4 (cP igL) 91) := by
  go_enter Tryz.func70, Tryz.ntmps70
  go_wp2
  go_ret
  exact ⟨rfl, rfl⟩
set_option maxRecDepth 100000 in
set_option maxHeartbeats 1000000 in
theorem barred_any (w : World) : Calls Tryz.prog 101 #[] w (TabW w 7 (cP baL) 91) := by
  go_enter Tryz.func101, Tryz.ntmps101
  go_wp2
  go_ret
  exact ⟨rfl, rfl⟩
set_option maxRecDepth 100000 in
set_option maxHeartbeats 4000000 in
theorem shifts_any (w : World) : Calls Tryz.prog 98 #[] w (TabW w 21 (cS shL) 114) := by
  go_enter Tryz.func98, Tryz.ntmps98
  go_wp2
  go_ret
  exact ⟨rfl, rfl⟩

set_option maxRecDepth 100000 in
set_option maxHeartbeats 1000000 in
theorem spanHas_any (x y r : Int) (w : World) : Calls Tryz.prog 71 #[.agg #[.int .i32 x, .int .i32 y], .int .i32 r] w (Tells (.bool (inP r (x, y))) w) := by
  by_cases h1 : x ≤ r
  · by_cases h2 : r ≤ y
    · rw [show inP r (x, y) = true from decide_eq_true ⟨h1, h2⟩]
      go_enter Tryz.func71, Tryz.ntmps71
      go_wp2
      go_ret
      exact ⟨rfl, (Below.refl _ _).alloc (Nat.le_refl _) _⟩
    · rw [show inP r (x, y) = false from decide_eq_false fun h => h2 h.2]
      go_enter Tryz.func71, Tryz.ntmps71
      go_wp2
      go_ret
      exact ⟨rfl, (Below.refl _ _).alloc (Nat.le_refl _) _⟩
  · rw [show inP r (x, y) = false from decide_eq_false fun h => h1 h.1]
    go_enter Tryz.func71, Tryz.ntmps71
    go_wp2
    go_ret
    exact ⟨rfl, (Below.refl _ _).alloc (Nat.le_refl _) _⟩
set_option maxRecDepth 100000 in
set_option maxHeartbeats 1000000 in
theorem shiftHas_any (x y z r : Int) (w : World) : Calls Tryz.prog 99 #[.agg #[.int .i32 x, .int .i32 y, .int .i32 z], .int .i32 r] w (Tells (.bool (inS r (x, y, z))) w) := by
  have HP := Lib.hid (fun w => spanHas_any x y r w)
  rw [show inS r (x, y, z) = inP r (x, y) from by unfold inS inP; rfl]
  generalize inP r (x, y) = q at HP ⊢
  go_enter Tryz.func99, Tryz.ntmps99
  go_wp2_with (first | (go_at_call 71; refine (HP.out _).mono ?_; rintro e w1 ⟨rfl, hB1⟩) | fail)
  go_ret
  exact ⟨rfl, below_past _ hB1⟩
set_option maxRecDepth 100000 in
set_option maxHeartbeats 1000000 in
theorem shiftMove_any (x y z r : Int) (w : World) (h0 : 0 ≤ x) (h1 : x ≤ r) (h2 : r ≤ 70000) (h3 : 0 ≤ z) (h4 : z ≤ 70000) : Calls Tryz.prog 100 #[.agg #[.int .i32 x, .int .i32 y, .int .i32 z], .int .i32 r] w (Tells (.int .i32 (r - x + z)) w) := by
  have e1 : IntKind.i32.wrap (r - x) = r - x := by simp [IntKind.wrap, IntKind.bits, IntKind.signed]; omega
  have e2 : IntKind.i32.wrap (r - x + z) = r - x + z := by simp [IntKind.wrap, IntKind.bits, IntKind.signed]; omega
  go_enter Tryz.func100, Tryz.ntmps100
  go_wp2
  go_ret
  exact ⟨by first | rfl | rw [e1, e2], (Below.refl _ _).alloc (Nat.le_refl _) _⟩

def Z2 (w : World) (B : Nat) : Prop := w.heap[B]? = some (.cells #[.int .i32 0, .int .i32 0] 91 (0, 0))
theorem Z2.cells {w : World} {B : Nat} {a b : Value} {t : TypeId} (h : w.heap[B]? = some (.cells #[a, b] t (0, 0))) : w.cell? ⟨B, 0, none⟩ = some a ∧ w.cell? ⟨B, 1, none⟩ = some b ∧ w.frozen? ⟨B, 0, none⟩ = false ∧ w.frozen? ⟨B, 1, none⟩ = false := by
  simp [World.cell?, World.frozen?, h]
def WhP (q : Bool) (w : World) (e : Ending) (w' : World) : Prop := (∃ x y, e = .returned (.tuple #[.agg #[.int .i32 x, .int .i32 y], .bool q])) ∧ Below w.heap.size w w'
theorem any_true {l : List (Int × Int)} {r : Int} {k : Nat} (hk : k < l.length) (h : inP r l[k]! = true) : l.any (inP r) = true := List.any_eq_true.2 ⟨l[k]!, by rw [getElem!_pos l k hk]; exact List.getElem_mem hk, h⟩
theorem any_false {l : List (Int × Int)} {r : Int} (h : ∀ j, j < l.length → inP r l[j]! = false) : l.any (inP r) = false := by
  rw [List.any_eq_false]
  intro p hp
  obtain ⟨k, hk, rfl⟩ := List.getElem_of_mem hp
  have := h k hk
  rw [getElem!_pos l k hk] at this
  rw [this]
  simp
theorem z2_set {w : World} {B : Nat} {a b : Value} {t : TypeId} (h : w.heap[B]? = some (.cells #[a, b] t (0, 0))) (u v : Value) : ((w.setCell ⟨B, 0, none⟩ u).setCell ⟨B, 1, none⟩ v).cell? ⟨B, 0, none⟩ = some u ∧ ((w.setCell ⟨B, 0, none⟩ u).setCell ⟨B, 1, none⟩ v).cell? ⟨B, 1, none⟩ = some v := by
  simp [World.cell?, World.setCell, Array.getElem?_modify, h]
set_option maxRecDepth 100000 in
set_option maxHeartbeats 2000000 in
theorem whichP_any (l : List (Int × Int)) (b n : Nat) (r : Int) (w : World) (hn : l.length = n) (hn1 : n ≤ 100) (hb : b < w.heap.size) (hc : ∀ i, i < n → w.cell? ⟨b, i * 2, none⟩ = some (.int .i32 l[i]!.1) ∧ w.cell? ⟨b, i * 2 + 1, none⟩ = some (.int .i32 l[i]!.2)) :
    Calls Tryz.prog 69 #[.slice (some ⟨b, 0, none⟩) n n, .func (.func 71) #[] #[], .int .i32 r] w (WhP (l.any (inP r)) w) := by
  have HN := Lib.hid hn
  have HC := Lib.hid hc
  have HH := Lib.hid (fun x y w => spanHas_any x y r w)
  have hZ0 : Z2 (w.alloc (.cells #[.int .i32 0, .int .i32 0] 91)) w.heap.size := alloc_heap_new' w _
  have hB0 : Below w.heap.size w (w.alloc (.cells #[.int .i32 0, .int .i32 0] 91)) := upA w _
  clear hn hc
  go_enter Tryz.func69, Tryz.ntmps69
  go_upto_region 1 with fail
  generalize w.alloc (.cells #[.int .i32 0, .int .i32 0] 91) = W at hZ0 hB0 ⊢
  obtain ⟨B, hBB⟩ : ∃ B, w.heap.size = B := ⟨_, rfl⟩
  have HBB := Lib.hid hBB
  have hBl : w.heap.size ≤ B := by omega
  rw [hBB] at hZ0 ⊢
  clear hBB
  go_wp2_with fail
  go_loopg [13] n (fun m s13 wr => ∃ k : Nat, s13 = .int .i64 (k : Int) ∧ m = n - k ∧ k ≤ n ∧ Hid (∀ j, j < k → inP r l[j]! = false) ∧ Below w.heap.size w wr ∧ Z2 wr B)
  case atStart => exact ⟨0, rfl, rfl, Nat.zero_le _, Lib.hid (fun j hj => by omega), hB0, hZ0⟩
  case round =>
    clear hB0 hZ0
    obtain ⟨k, rfl, rfl, hk, HNo, hB, hZ⟩ := hrel
    by_cases hlt : k < n
    · have hltz : (k : Int) < (n : Int) := by omega
      obtain ⟨c0, c1⟩ := HC.out k hlt
      rw [← hB.cell (p := ⟨b, k * 2, none⟩) hb] at c0
      rw [← hB.cell (p := ⟨b, k * 2 + 1, none⟩) hb] at c1
      obtain ⟨p, hp⟩ : ∃ p, l[k]! = p := ⟨_, rfl⟩
      rw [hp] at c0 c1
      obtain ⟨x, y⟩ := p
      dsimp only at c0 c1
      have HP := Lib.hid hp
      clear hp
      go_upto_region 4 with fail
      have hX := alloc_heap_new' wr (.cells #[.int .i32 x, .int .i32 y] 91)
      have hZ1 : Z2 (wr.alloc (.cells #[.int .i32 x, .int .i32 y] 91)) B := alloc_old _ hZ
      have hB1 : Below w.heap.size w (wr.alloc (.cells #[.int .i32 x, .int .i32 y] 91)) := hB.alloc hB.size _
      generalize wr.alloc (.cells #[.int .i32 x, .int .i32 y] 91) = W1 at hX hZ1 hB1 ⊢
      generalize wr.heap.size = X at hX ⊢
      obtain ⟨x0, x1, e0, e1⟩ := Z2.cells hX
      have HX := Lib.hid hX
      have HZ1 := Lib.hid hZ1
      clear hB hZ c0 c1 hX hZ1
      have HQ := Lib.hid (fun w => spanHas_any x y r w)
      have HIN : Hid (inP r l[k]! = inP r (x, y)) := Lib.hid (by rw [HP.out])
      obtain ⟨q, hq⟩ : ∃ q, inP r (x, y) = q := ⟨_, rfl⟩
      rw [hq] at HQ HIN
      clear hq HP HH
      cases q with
      | true =>
        go_upto_region 5 with (first | (go_at_call 71; refine (HQ.out _).mono ?_; rintro e w2 ⟨rfl, hB2⟩) | fail)
        have hX2 := (hB2.block X (Array.getElem?_eq_some_iff.1 HX.out).1).trans HX.out
        have hZ2 := (hB2.block B (Array.getElem?_eq_some_iff.1 HZ1.out).1).trans HZ1.out
        have hB3 := hB1.trans (hB2.mono hB1.size)
        have HAT : Hid (l.any (inP r) = true) := Lib.hid (any_true (by rw [HN.out]; exact hlt) HIN.out)
        clear x0 x1 e0 e1 hB1 hB2
        obtain ⟨x0, x1, e0, e1⟩ := Z2.cells hX2
        obtain ⟨z0, z1, g0, g1⟩ := Z2.cells hZ2
        have HZ := Lib.hid hZ2
        clear hX2 hZ2
        go_wp2_with fail
        obtain ⟨s0, s1⟩ := z2_set HZ.out (.int .i32 x) (.int .i32 y)
        refine bodyPost_ret (v := .tuple #[.agg #[.int .i32 x, .int .i32 y], .bool true]) ?_ rfl ⟨⟨x, y, by rw [HAT.out]⟩, ?_⟩
        · simp [results, Tryz.results69, go_sem, s0, s1]
        · exact (hB3.setCell (p := ⟨B, 0, none⟩) hBl _).setCell (p := ⟨B, 1, none⟩) hBl _
      | false =>
        go_upto_region 6 with (first | (go_at_call 71; refine (HQ.out _).mono ?_; rintro e w2 ⟨rfl, hB2⟩) | fail)
        have hZ2 := (hB2.block B (Array.getElem?_eq_some_iff.1 HZ1.out).1).trans HZ1.out
        have hB3 := hB1.trans (hB2.mono hB1.size)
        clear x0 x1 e0 e1 hB1 hB2
        go_wp2_with fail
        go_roundg (n - (k + 1))
        case measure => omega
        case rel =>
          refine ⟨k + 1, by go_num, rfl, by omega, Lib.hid (fun j hj => ?_), hB3, hZ2⟩
          by_cases hjk : j = k
          · subst hjk; exact HIN.out
          · exact HNo.out j (by omega)
    · obtain rfl : k = n := by omega
      have hltz : ¬ ((k : Nat) : Int) < (k : Int) := by omega
      have HQ : Hid (l.any (inP r) = false) := Lib.hid (any_false (fun j hj => HNo.out j (by rw [HN.out] at hj; exact hj)))
      go_upto_region 8 with fail
      have hX := alloc_heap_new' wr (.cells #[.int .i32 0, .int .i32 0] 91)
      have hZ1 : Z2 (wr.alloc (.cells #[.int .i32 0, .int .i32 0] 91)) B := alloc_old _ hZ
      have hB1 : Below w.heap.size w (wr.alloc (.cells #[.int .i32 0, .int .i32 0] 91)) := hB.alloc hB.size _
      generalize wr.alloc (.cells #[.int .i32 0, .int .i32 0] 91) = W1 at hX hZ1 hB1 ⊢
      generalize wr.heap.size = X at hX ⊢
      obtain ⟨x0, x1, e0, e1⟩ := Z2.cells hX
      obtain ⟨z0, z1, g0, g1⟩ := Z2.cells hZ1
      have HZ := Lib.hid hZ1
      clear hB hZ hX hZ1 HH
      go_wp2_with fail
      obtain ⟨s0, s1⟩ := z2_set HZ.out (.int .i32 0) (.int .i32 0)
      refine bodyPost_ret (v := .tuple #[.agg #[.int .i32 0, .int .i32 0], .bool false]) ?_ rfl ⟨⟨0, 0, by rw [HQ.out]⟩, ?_⟩
      · simp [results, Tryz.results69, go_sem, s0, s1]
      · exact (hB1.setCell (p := ⟨B, 0, none⟩) hBl _).setCell (p := ⟨B, 1, none⟩) hBl _
end Go.Proofs.YtenfdnnagijfnaaGreatDoor
