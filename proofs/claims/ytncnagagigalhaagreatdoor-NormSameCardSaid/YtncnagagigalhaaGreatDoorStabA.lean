/-
  The library's stable sort at []classed: a list in the sort's worlds; swapRange.
-/
import Derived.Test.YtncnagagigalhaaGreatDoorNormP
import Derived.BigRegion
import Derived.Shelf.RegionOpenPlain
namespace Go.Proofs.YtncnagagigalhaaGreatDoor
open Go.RowKit Norm Go.Shelf Go.Sort Go.Lib

/-- the world is one of the sort's, the row holding l -/
def SWL (w0 : World) (blk off : Nat) (l : List C) (W : World) : Prop := SWK encC 2 w0 blk off l.toArray W
abbrev RowC (w0 : World) (blk off : Nat) (l0 : List C) : Prop := RowK encC 2 w0 blk off l0.toArray
theorem lget (A : List C) (x : C) (B : List C) : (A ++ x :: B).toArray[A.length]! = x := by simp [getElem!_pos]
theorem lget2 (A : List C) (x : C) (B : List C) (y : C) (D : List C) : (A ++ x :: B ++ y :: D).toArray[A.length + 1 + B.length]! = y := by
  have := lget (A ++ x :: B) y D
  rw [List.length_append, List.length_cons, show A.length + (B.length + 1) = A.length + 1 + B.length from by omega] at this
  exact this
theorem lswp (A : List C) (x : C) (B : List C) (y : C) (D : List C) : swp (A ++ x :: B ++ y :: D).toArray A.length (A.length + 1 + B.length) = (A ++ y :: B ++ x :: D).toArray := by
  have e1 : (A ++ x :: B ++ y :: D).toArray[A.length]! = x := by rw [List.append_assoc, List.cons_append]; exact lget A x _
  have e2 := lget2 A x B y D
  apply Array.ext'
  unfold swp
  rw [e1, e2]
  have : ((A ++ x :: B ++ y :: D).set A.length y).set (A.length + 1 + B.length) x = A ++ y :: B ++ x :: D := by
    rw [List.append_assoc, List.cons_append, List.set_append_right _ _ (Nat.le_refl _), Nat.sub_self, List.set_cons_zero, List.set_append_right _ _ (by omega), show A.length + 1 + B.length - A.length = B.length + 1 from by omega, List.set_cons_succ, List.set_append_right _ _ (Nat.le_refl _), Nat.sub_self, List.set_cons_zero]
    simp
  simpa using this
section
variable {w0 W : World} {blk off : Nat} {l0 l : List C}
theorem SWL.grown (h : SWL w0 blk off l W) (n : Nat) (os : Array Obj) : SWL w0 blk off l (grow (W.drewN n) os) := SWK.grown h n os
theorem SWL.cells (h : SWL w0 blk off l W) (R : RowC w0 blk off l0) (hs : l.length = l0.length) {i : Nat} (hi : i < l.length) :
    W.cell? ⟨blk, off + i * 2, none⟩ = some (.int .i32 l.toArray[i]!.1) ∧ W.cell? ⟨blk, off + i * 2 + 1, none⟩ = some (.int .u8 l.toArray[i]!.2) ∧
    W.frozen? ⟨blk, off + i * 2, none⟩ = false ∧ W.frozen? ⟨blk, off + i * 2 + 1, none⟩ = false := by
  have hH : HoldsK encC 2 W blk off l.toArray := SWK.holds h R.hblk R.hH (by simpa using hs)
  have h0 := hH.cell (i := i) (c := 0) (by simpa using hi) (by omega)
  have h1 := hH.cell (i := i) (c := 1) (by simpa using hi) (by omega)
  exact ⟨h0.1, h1.1, h0.2, h1.2⟩
theorem SWL.swapped (h : SWL w0 blk off l W) (R : RowC w0 blk off l0) {i j : Nat} (hi : i < l.length) (hj : j < l.length) {x y : C} (ex : l.toArray[i]! = x) (ey : l.toArray[j]! = y) {l' : List C} (he : swp l.toArray i j = l'.toArray) :
    SWL w0 blk off l' ((((W.drew.setCell ⟨blk, off + i * 2, none⟩ (.int .i32 y.1)).setCell ⟨blk, off + i * 2 + 1, none⟩ (.int .u8 y.2)).setCell ⟨blk, off + j * 2, none⟩ (.int .i32 x.1)).setCell ⟨blk, off + j * 2 + 1, none⟩ (.int .u8 x.2)) := by
  have := SWK.swapped h R i j (by simpa using hi) (by simpa using hj)
  rw [he, ex, ey] at this
  exact this
end

def SwOk (w0 : World) (blk off : Nat) (l' : List C) (e : Ending) (w' : World) : Prop := e = .returned (.tuple #[]) ∧ SWL w0 blk off l' w'

set_option maxRecDepth 100000 in
set_option maxHeartbeats 4000000 in
theorem swapRange_any (w0 : World) (blk off cap N : Nat) (l0 : List C) (R : RowC w0 blk off l0) (P U M V S : List C) (n a b : Nat) (hU : U.length = n) (hV : V.length = n) (ha : a = P.length) (hb : b = P.length + n + M.length) (hN : N = l0.length) (hl : (P ++ U ++ M ++ V ++ S).length = N) (h6 : N ≤ 1000000)
    (W : World) (hS : SWL w0 blk off (P ++ U ++ M ++ V ++ S) W) :
    Calls Tryz.prog 106 #[.slice (some ⟨blk, off, none⟩) N cap, .int .i64 a, .int .i64 b, .int .i64 n, .func (.func 58) #[] #[]] W (SwOk w0 blk off (P ++ V ++ M ++ U ++ S)) := by
  have HS0 : Hid (SWL w0 blk off (P ++ (V.take 0 ++ U.drop 0) ++ M ++ (U.take 0 ++ V.drop 0) ++ S) W) := Lib.hid (by simpa using hS)
  clear hS
  go_enter Tryz.func106, Tryz.ntmps106
  go_wp2
  go_loopg [10] n (fun m s10 wr => ∃ i : Nat, s10 = .int .i64 (i : Int) ∧ m = n - i ∧ i ≤ n ∧ Hid (SWL w0 blk off (P ++ (V.take i ++ U.drop i) ++ M ++ (U.take i ++ V.drop i) ++ S) wr))
  case atStart => exact ⟨0, rfl, rfl, Nat.zero_le _, HS0⟩
  case round =>
    obtain ⟨i, rfl, rfl, hi, HS⟩ := hrel
    clear HS0
    by_cases hlt : i < n
    · have hltz : (i : Int) < (n : Int) := by omega
      have hu : U.drop i = U[i] :: U.drop (i + 1) := List.drop_eq_getElem_cons (by omega)
      have hv : V.drop i = V[i] :: V.drop (i + 1) := List.drop_eq_getElem_cons (by omega)
      have hu2 : U.take (i + 1) = U.take i ++ [U[i]] := by rw [List.take_add_one, List.getElem?_eq_getElem (by omega)]; rfl
      have hv2 : V.take (i + 1) = V.take i ++ [V[i]] := by rw [List.take_add_one, List.getElem?_eq_getElem (by omega)]; rfl
      obtain ⟨x, hx⟩ : ∃ x, U[i] = x := ⟨_, rfl⟩
      obtain ⟨y, hy⟩ : ∃ y, V[i] = y := ⟨_, rfl⟩
      rw [hx] at hu hu2
      rw [hy] at hv hv2
      simp only [List.length_append] at hl
      have e1 : P ++ (V.take i ++ U.drop i) ++ M ++ (U.take i ++ V.drop i) ++ S = (P ++ V.take i) ++ x :: (U.drop (i + 1) ++ M ++ U.take i) ++ y :: (V.drop (i + 1) ++ S) := by rw [hu, hv]; simp
      have e2 : P ++ (V.take (i + 1) ++ U.drop (i + 1)) ++ M ++ (U.take (i + 1) ++ V.drop (i + 1)) ++ S = (P ++ V.take i) ++ y :: (U.drop (i + 1) ++ M ++ U.take i) ++ x :: (V.drop (i + 1) ++ S) := by rw [hu2, hv2]; simp
      have la : (P ++ V.take i).length = a + i := by simp; omega
      have lb : (P ++ V.take i).length + 1 + (U.drop (i + 1) ++ M ++ U.take i).length = b + i := by simp; omega
      have hS := HS.out
      rw [e1] at hS
      have ll : ((P ++ V.take i) ++ x :: (U.drop (i + 1) ++ M ++ U.take i) ++ y :: (V.drop (i + 1) ++ S)).length = N := by simp; omega
      have HE2 := Lib.hid e2
      generalize P ++ V.take i = A at hS la lb ll HE2
      generalize U.drop (i + 1) ++ M ++ U.take i = B at hS lb ll HE2
      generalize V.drop (i + 1) ++ S = D at hS ll HE2
      have g1 : (A ++ x :: B ++ y :: D).toArray[a + i]! = x := by rw [← la, List.append_assoc, List.cons_append]; exact lget A x _
      have g2 : (A ++ x :: B ++ y :: D).toArray[b + i]! = y := by rw [← lb]; exact lget2 A x B y D
      have g3 : swp (A ++ x :: B ++ y :: D).toArray (a + i) (b + i) = (A ++ y :: B ++ x :: D).toArray := by rw [← la, ← lb, la]; exact la ▸ lswp A x B y D
      have bi : a + i < N := by omega
      have bj : b + i < N := by omega
      obtain ⟨c0, c1, f0, f1⟩ := hS.cells R (by omega) (i := a + i) (by omega)
      obtain ⟨d0, d1, k0, k1⟩ := hS.cells R (by omega) (i := b + i) (by omega)
      rw [g1] at c0 c1
      rw [g2] at d0 d1
      have HSW := Lib.hid (hS.swapped R (i := a + i) (j := b + i) (by omega) (by omega) g1 g2 g3)
      clear e1 e2 hu hv hu2 hv2 hx hy HS hS g1 g2 g3 ha hb hN hU hV hl
      have ea : ((a : Int) + (i : Int)).toNat = a + i := by omega
      have pa : (0 : Int) ≤ (a : Int) + (i : Int) := by omega
      have ba : (a : Int) + (i : Int) < (N : Int) := by omega
      have wa : IntKind.i64.wrap ((a : Int) + (i : Int)) = (a : Int) + (i : Int) := by rw [IntKind.wrap_i64]; omega
      have eb : ((b : Int) + (i : Int)).toNat = b + i := by omega
      have pb : (0 : Int) ≤ (b : Int) + (i : Int) := by omega
      have bb : (b : Int) + (i : Int) < (N : Int) := by omega
      have wb : IntKind.i64.wrap ((b : Int) + (i : Int)) = (b : Int) + (i : Int) := by rw [IntKind.wrap_i64]; omega
      go_wp2_with fail
      have mixed : Tryz.prog.follows .mixedOrders = true := by kernel_rfl
      go_big_region_o
      go_wp2_with fail
      go_roundg (n - (i + 1))
      case measure => omega
      case rel => exact ⟨i + 1, by go_num, rfl, by omega, Lib.hid (by rw [HE2.out]; exact HSW.out)⟩
    · obtain rfl : i = n := by omega
      have hltz : ¬ ((i : Nat) : Int) < (i : Int) := by omega
      have hS := HS.out
      rw [List.take_of_length_le (by omega), List.take_of_length_le (by omega), List.drop_eq_nil_of_le (by omega), List.drop_eq_nil_of_le (by omega), List.append_nil, List.append_nil] at hS
      go_wp2_with fail
      go_end0
      exact ⟨rfl, by simpa only [List.append_assoc] using hS⟩
end Go.Proofs.YtncnagagigalhaaGreatDoor
