/-
  remap: One, and label.Code.
-/
import Derived.Test.YtenfdnnagijfnaaGreatDoorRemapA
import Derived.Test.YtenfdnnagijfnaaGreatDoorNormRD
namespace Go.Proofs.YtenfdnnagijfnaaGreatDoor
open Go.RowKit Norm Remap

def Z3 (w : World) (B : Nat) : Prop := w.heap[B]? = some (.cells #[.int .i32 0, .int .i32 0, .int .i32 0] 114 (0, 0))
theorem Z3.cells {w : World} {B : Nat} {a b c : Value} {t : TypeId} (h : w.heap[B]? = some (.cells #[a, b, c] t (0, 0))) : w.cell? ⟨B, 0, none⟩ = some a ∧ w.cell? ⟨B, 1, none⟩ = some b ∧ w.cell? ⟨B, 2, none⟩ = some c ∧ w.frozen? ⟨B, 0, none⟩ = false ∧ w.frozen? ⟨B, 1, none⟩ = false ∧ w.frozen? ⟨B, 2, none⟩ = false := by
  simp [World.cell?, World.frozen?, h]
theorem z3_set {w : World} {B : Nat} {a b c : Value} {t : TypeId} (h : w.heap[B]? = some (.cells #[a, b, c] t (0, 0))) (u v x : Value) : (((w.setCell ⟨B, 0, none⟩ u).setCell ⟨B, 1, none⟩ v).setCell ⟨B, 2, none⟩ x).cell? ⟨B, 0, none⟩ = some u ∧ (((w.setCell ⟨B, 0, none⟩ u).setCell ⟨B, 1, none⟩ v).setCell ⟨B, 2, none⟩ x).cell? ⟨B, 1, none⟩ = some v ∧ (((w.setCell ⟨B, 0, none⟩ u).setCell ⟨B, 1, none⟩ v).setCell ⟨B, 2, none⟩ x).cell? ⟨B, 2, none⟩ = some x := by
  simp [World.cell?, World.setCell, Array.getElem?_modify, h]
def WhS (o : Option (Int × Int × Int)) (w : World) (e : Ending) (w' : World) : Prop := e = .returned (.tuple #[.agg #[.int .i32 (o.getD (0, 0, 0)).1, .int .i32 (o.getD (0, 0, 0)).2.1, .int .i32 (o.getD (0, 0, 0)).2.2], .bool o.isSome]) ∧ Below w.heap.size w w'
theorem find_at : ∀ {l : List (Int × Int × Int)} {r : Int} {k : Nat}, k < l.length → inS r l[k]! = true → (∀ j, j < k → inS r l[j]! = false) → l.find? (inS r) = some l[k]!
  | x :: t, r, 0, _, h, _ => by
    have h : inS r x = true := h
    rw [List.find?_cons, h]
    rfl
  | x :: t, r, k + 1, hk, h, hn => by
    have h0 : inS r x = false := hn 0 (by omega)
    rw [List.find?_cons, h0]
    have := find_at (l := t) (r := r) (k := k) (by simpa using hk) (by simpa using h) (fun j hj => by simpa using hn (j + 1) (by omega))
    simpa using this
theorem find_no {l : List (Int × Int × Int)} {r : Int} (h : ∀ j, j < l.length → inS r l[j]! = false) : l.find? (inS r) = none := by
  rw [List.find?_eq_none]
  intro p hp
  obtain ⟨k, hk, rfl⟩ := List.getElem_of_mem hp
  have := h k hk
  rw [getElem!_pos l k hk] at this
  rw [this]
  simp
set_option maxRecDepth 100000 in
set_option maxHeartbeats 2000000 in
theorem whichS_any (l : List (Int × Int × Int)) (b n : Nat) (r : Int) (w : World) (hn : l.length = n) (hn1 : n ≤ 100) (hb : b < w.heap.size) (hc : ∀ i, i < n → w.cell? ⟨b, i * 3, none⟩ = some (.int .i32 l[i]!.1) ∧ w.cell? ⟨b, i * 3 + 1, none⟩ = some (.int .i32 l[i]!.2.1) ∧ w.cell? ⟨b, i * 3 + 2, none⟩ = some (.int .i32 l[i]!.2.2)) :
    Calls Tryz.prog 97 #[.slice (some ⟨b, 0, none⟩) n n, .func (.func 99) #[] #[], .int .i32 r] w (WhS (l.find? (inS r)) w) := by
  have HN := Lib.hid hn
  have HC := Lib.hid hc
  have HH := Lib.hid (fun x y z w => shiftHas_any x y z r w)
  have hZ0 : Z3 (w.alloc (.cells #[.int .i32 0, .int .i32 0, .int .i32 0] 114)) w.heap.size := alloc_heap_new' w _
  have hB0 : Below w.heap.size w (w.alloc (.cells #[.int .i32 0, .int .i32 0, .int .i32 0] 114)) := upA w _
  clear hn hc
  go_enter Tryz.func97, Tryz.ntmps97
  go_upto_region 1 with fail
  generalize w.alloc (.cells #[.int .i32 0, .int .i32 0, .int .i32 0] 114) = W at hZ0 hB0 ⊢
  obtain ⟨B, hBB⟩ : ∃ B, w.heap.size = B := ⟨_, rfl⟩
  have HBB := Lib.hid hBB
  have hBl : w.heap.size ≤ B := by omega
  rw [hBB] at hZ0 ⊢
  clear hBB
  go_wp2_with fail
  go_loopg [13] n (fun m s13 wr => ∃ k : Nat, s13 = .int .i64 (k : Int) ∧ m = n - k ∧ k ≤ n ∧ Hid (∀ j, j < k → inS r l[j]! = false) ∧ Below w.heap.size w wr ∧ Z3 wr B)
  case atStart => exact ⟨0, rfl, rfl, Nat.zero_le _, Lib.hid (fun j hj => by omega), hB0, hZ0⟩
  case round =>
    clear hB0 hZ0
    obtain ⟨k, rfl, rfl, hk, HNo, hB, hZ⟩ := hrel
    by_cases hlt : k < n
    · have hltz : (k : Int) < (n : Int) := by omega
      obtain ⟨c0, c1, c2⟩ := HC.out k hlt
      rw [← hB.cell (p := ⟨b, k * 3, none⟩) hb] at c0
      rw [← hB.cell (p := ⟨b, k * 3 + 1, none⟩) hb] at c1
      rw [← hB.cell (p := ⟨b, k * 3 + 2, none⟩) hb] at c2
      obtain ⟨p, hp⟩ : ∃ p, l[k]! = p := ⟨_, rfl⟩
      rw [hp] at c0 c1 c2
      obtain ⟨x, y, z⟩ := p
      dsimp only at c0 c1 c2
      have HP := Lib.hid hp
      clear hp
      go_upto_region 4 with fail
      have hX := alloc_heap_new' wr (.cells #[.int .i32 x, .int .i32 y, .int .i32 z] 114)
      have hZ1 : Z3 (wr.alloc (.cells #[.int .i32 x, .int .i32 y, .int .i32 z] 114)) B := alloc_old _ hZ
      have hB1 : Below w.heap.size w (wr.alloc (.cells #[.int .i32 x, .int .i32 y, .int .i32 z] 114)) := hB.alloc hB.size _
      generalize wr.alloc (.cells #[.int .i32 x, .int .i32 y, .int .i32 z] 114) = W1 at hX hZ1 hB1 ⊢
      generalize wr.heap.size = X at hX ⊢
      obtain ⟨x0, x1, x2, e0, e1, e2⟩ := Z3.cells hX
      have HX := Lib.hid hX
      have HZ1 := Lib.hid hZ1
      clear hB hZ c0 c1 c2 hX hZ1
      have HQ := Lib.hid (fun w => shiftHas_any x y z r w)
      have HIN : Hid (inS r l[k]! = inS r (x, y, z)) := Lib.hid (by rw [HP.out])
      obtain ⟨q, hq⟩ : ∃ q, inS r (x, y, z) = q := ⟨_, rfl⟩
      rw [hq] at HQ HIN
      clear hq HH
      cases q with
      | true =>
        go_upto_region 5 with (first | (go_at_call 99; refine (HQ.out _).mono ?_; rintro e w2 ⟨rfl, hB2⟩) | fail)
        have hX2 := (hB2.block X (Array.getElem?_eq_some_iff.1 HX.out).1).trans HX.out
        have hZ2 := (hB2.block B (Array.getElem?_eq_some_iff.1 HZ1.out).1).trans HZ1.out
        have hB3 := hB1.trans (hB2.mono hB1.size)
        have HAT : Hid (l.find? (inS r) = some (x, y, z)) := Lib.hid (by rw [find_at (by rw [HN.out]; exact hlt) HIN.out HNo.out, HP.out])
        clear x0 x1 x2 e0 e1 e2 hB1 hB2
        obtain ⟨x0, x1, x2, e0, e1, e2⟩ := Z3.cells hX2
        obtain ⟨z0, z1, z2, g0, g1, g2⟩ := Z3.cells hZ2
        have HZ := Lib.hid hZ2
        clear hX2 hZ2
        go_wp2_with fail
        obtain ⟨s0, s1, s2⟩ := z3_set HZ.out (.int .i32 x) (.int .i32 y) (.int .i32 z)
        refine bodyPost_ret (v := .tuple #[.agg #[.int .i32 x, .int .i32 y, .int .i32 z], .bool true]) ?_ rfl ⟨by rw [HAT.out]; rfl, ?_⟩
        · simp [results, Tryz.results97, go_sem, s0, s1, s2]
        · exact ((hB3.setCell (p := ⟨B, 0, none⟩) hBl _).setCell (p := ⟨B, 1, none⟩) hBl _).setCell (p := ⟨B, 2, none⟩) hBl _
      | false =>
        go_upto_region 6 with (first | (go_at_call 99; refine (HQ.out _).mono ?_; rintro e w2 ⟨rfl, hB2⟩) | fail)
        have hZ2 := (hB2.block B (Array.getElem?_eq_some_iff.1 HZ1.out).1).trans HZ1.out
        have hB3 := hB1.trans (hB2.mono hB1.size)
        clear x0 x1 x2 e0 e1 e2 hB1 hB2
        go_wp2_with fail
        go_roundg (n - (k + 1))
        case measure => omega
        case rel =>
          refine ⟨k + 1, by go_num, rfl, by omega, Lib.hid (fun j hj => ?_), hB3, hZ2⟩
          by_cases hjk : j = k
          · subst hjk; exact HIN.out
          · exact HNo.out j (by omega)
    · obtain rfl : k = n := by omega
      have hltz : ¬ ((k : Nat) : Int) < (k : Int) := by omega
      have HQ : Hid (l.find? (inS r) = none) := Lib.hid (find_no (fun j hj => HNo.out j (by rw [HN.out] at hj; exact hj)))
      go_upto_region 8 with fail
      have hX := alloc_heap_new' wr (.cells #[.int .i32 0, .int .i32 0, .int .i32 0] 114)
      have hZ1 : Z3 (wr.alloc (.cells #[.int .i32 0, .int .i32 0, .int .i32 0] 114)) B := alloc_old _ hZ
      have hB1 : Below w.heap.size w (wr.alloc (.cells #[.int .i32 0, .int .i32 0, .int .i32 0] 114)) := hB.alloc hB.size _
      generalize wr.alloc (.cells #[.int .i32 0, .int .i32 0, .int .i32 0] 114) = W1 at hX hZ1 hB1 ⊢
      generalize wr.heap.size = X at hX ⊢
      obtain ⟨x0, x1, x2, e0, e1, e2⟩ := Z3.cells hX
      obtain ⟨z0, z1, z2, g0, g1, g2⟩ := Z3.cells hZ1
      have HZ := Lib.hid hZ1
      clear hB hZ hX hZ1 HH
      go_wp2_with fail
      obtain ⟨s0, s1, s2⟩ := z3_set HZ.out (.int .i32 0) (.int .i32 0) (.int .i32 0)
      refine bodyPost_ret (v := .tuple #[.agg #[.int .i32 0, .int .i32 0, .int .i32 0], .bool false]) ?_ rfl ⟨by rw [HQ.out]; rfl, ?_⟩
      · simp [results, Tryz.results97, go_sem, s0, s1, s2]
      · exact ((hB1.setCell (p := ⟨B, 0, none⟩) hBl _).setCell (p := ⟨B, 1, none⟩) hBl _).setCell (p := ⟨B, 2, none⟩) hBl _

theorem tab_cell (w : World) (xs : List Value) (t : TypeId) (k : Nat) : (w.alloc (.cells xs.toArray t)).cell? ⟨w.heap.size, k, none⟩ = xs[k]? := by
  rw [cell_of_row _ _ _ xs.toArray t (0, 0) (World.alloc_heap_new w _), List.getElem?_toArray]
end Go.Proofs.YtenfdnnagijfnaaGreatDoor
