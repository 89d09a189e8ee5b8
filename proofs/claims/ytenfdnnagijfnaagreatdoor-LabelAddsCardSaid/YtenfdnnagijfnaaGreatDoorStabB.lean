import Derived.Test.YtenfdnnagijfnaaGreatDoorNormP
import Derived.BigRegion
import Derived.Shelf.RegionOpenPlain
/-
  The library's stable sort at []classed: a list in the sort's worlds; swapRange.
-/
namespace Go.Proofs.YtenfdnnagijfnaaGreatDoor
open Go.RowKit Norm Go.Shelf Go.Sort Go.Lib

/-- the world is one of the sort's, the row holding l -/
def SWL (w0 : World) (blk off : Nat) (l : List C) (W : World) : Prop := SWK encC 2 w0 blk off l.toArray W
abbrev RowC (w0 : World) (blk off : Nat) (l0 : List C) : Prop := RowK encC 2 w0 blk off l0.toArray
theorem lget (A : List C) (x : C) (B : List C) : (A ++ x :: B).toArray[A.length]! = x := by simp [getElem!_pos]
theorem lget2 (A : List C) (x : C) (B : List C) (y : C) (D : List C) : (A ++ x :: B ++ y :: D).toArray[A.length + 1 + B.length]! = y := by
  have := lget (A ++ x :: B) y D
  rw [List.length_append, List.length_cons, show A.length + (B.length + 1) = A.length + 1 + B.length from by omega] at this
  exact this
theorem lswp (A : List C) (x : C) (B : List C) (y : C) (D : List C) : swp (A ++ x :: B ++ y :: D).toArray A.length (A.length + 1 + B.length) = (A ++ y :: B ++ x :: D).toArray := by
  have e1 : (A ++ x :: B ++ y :: D).toArray[A.length]! = x := by rw [List.append_assoc, List.cons_append]; exact lget A x _
  have e2 := lget2 A x B y D
  apply Array.ext'
  unfold swp
  rw [e1, e2]
  have : ((A ++ x :: B ++ y :: D).set A.length y).set (A.length + 1 + B.length) x = A ++ y :: B ++ x :: D := by
    rw [List.append_assoc, List.cons_append, List.set_append_right _ _ (Nat.le_refl _), Nat.sub_self, List.set_cons_zero, List.set_append_right _ _ (by omega), show A.length + 1 + B.length - A.length = B.length + 1 from by omega, List.set_cons_succ, List.set_append_right _ _ (Nat.le_refl _), Nat.sub_self, List.set_cons_zero]
    simp
  simpa using this
section
variable {w0 W : World} {blk off : Nat} {l0 l : List C}
theorem SWL.grown (h : SWL w0 blk off l W) (n : Nat) (os : Array Obj) : SWL w0 blk off l (grow (W.drewN n) os) := SWK.grown h n os
theorem SWL.cells (h : SWL w0 blk off l W) (R : RowC w0 blk off l0) (hs : l.length = l0.length) {i : Nat} (hi : i < l.length) :
    W.cell? ⟨blk, off + i * 2, none⟩ = some (.int .i32 l.toArray[i]!.1) ∧ W.cell? ⟨blk, off + i * 2 + 1, none⟩ = some (.int .u8 l.toArray[i]!.2) ∧
    W.frozen? ⟨blk, off + i * 2, none⟩ = false ∧ W.frozen? ⟨blk, off + i * 2 + 1, none⟩ = false := by
  have hH : HoldsK encC 2 W blk off l.toArray := SWK.holds h R.hblk R.hH (by simpa using hs)
  have h0 := hH.cell (i := i) (c := 0) (by simpa using hi) (by omega)
  have h1 := hH.cell (i := i) (c := 1) (by simpa using hi) (by omega)
  exact ⟨h0.1, h1.1, h0.2, h1.2⟩
theorem SWL.swapped (h : SWL w0 blk off l W) (R : RowC w0 blk off l0) {i j : Nat} (hi : i < l.length) (hj : j < l.length) {x y : C} (ex : l.toArray[i]! = x) (ey : l.toArray[j]! = y) {l' : List C} (he : swp l.toArray i j = l'.toArray) :
    SWL w0 blk off l' ((((W.drew.setCell ⟨blk, off + i * 2, none⟩ (.int .i32 y.1)).setCell ⟨blk, off + i * 2 + 1, none⟩ (.int .u8 y.2)).setCell ⟨blk, off + j * 2, none⟩ (.int .i32 x.1)).setCell ⟨blk, off + j * 2 + 1, none⟩ (.int .u8 x.2)) := by
  have := SWK.swapped h R i j (by simpa using hi) (by simpa using hj)
  rw [he, ex, ey] at this
  exact this
end

def SwOk (w0 : World) (blk off : Nat) (l' : List C) (e : Ending) (w' : World) : Prop := e = .returned (.tuple #[]) ∧ SWL w0 blk off l' w'

set_option maxRecDepth 100000 in
set_option maxHeartbeats 4000000 in
theorem swapRange_any (w0 : World) (blk off cap N : Nat) (l0 : List C) (R : RowC w0 blk off l0) (P U M V S : List C) (n a b : Nat) (hU : U.length = n) (hV : V.length = n) (ha : a = P.length) (hb : b = P.length + n + M.length) (hN : N = l0.length) (hl : (P ++ U ++ M ++ V ++ S).length = N) (h6 : N ≤ 1000000)
    (W : World) (hS : SWL w0 blk off (P ++ U ++ M ++ V ++ S) W) :
    Calls Tryz.prog 147 #[.slice (some ⟨blk, off, none⟩) N cap, .int .i64 a, .int .i64 b, .int .i64 n, .func (.func 91) #[] #[]] W (SwOk w0 blk off (P ++ V ++ M ++ U ++ S)) := by
  have HS0 : Hid (SWL w0 blk off (P ++ (V.take 0 ++ U.drop 0) ++ M ++ (U.take 0 ++ V.drop 0) ++ S) W) := Lib.hid (by simpa using hS)
  clear hS
  go_enter Tryz.func147, Tryz.ntmps147
  go_wp2
  go_loopg [10] n (fun m s10 wr => ∃ i : Nat, s10 = .int .i64 (i : Int) ∧ m = n - i ∧ i ≤ n ∧ Hid (SWL w0 blk off (P ++ (V.take i ++ U.drop i) ++ M ++ (U.take i ++ V.drop i) ++ S) wr))
  case atStart => exact ⟨0, rfl, rfl, Nat.zero_le _, HS0⟩
  case round =>
    obtain ⟨i, rfl, rfl, hi, HS⟩ := hrel
    clear HS0
    by_cases hlt : i < n
    · have hltz : (i : Int) < (n : Int) := by omega
      have hu : U.drop i = U[i] :: U.drop (i + 1) := List.drop_eq_getElem_cons (by omega)
      have hv : V.drop i = V[i] :: V.drop (i + 1) := List.drop_eq_getElem_cons (by omega)
      have hu2 : U.take (i + 1) = U.take i ++ [U[i]] := by rw [List.take_add_one, List.getElem?_eq_getElem (by omega)]; rfl
      have hv2 : V.take (i + 1) = V.take i ++ [V[i]] := by rw [List.take_add_one, List.getElem?_eq_getElem (by omega)]; rfl
      obtain ⟨x, hx⟩ : ∃ x, U[i] = x := ⟨_, rfl⟩
      obtain ⟨y, hy⟩ : ∃ y, V[i] = y := ⟨_, rfl⟩
      rw [hx] at hu hu2
      rw [hy] at hv hv2
      simp only [List.length_append] at hl
      have e1 : P ++ (V.take i ++ U.drop i) ++ M ++ (U.take i ++ V.drop i) ++ S = (P ++ V.take i) ++ x :: (U.drop (i + 1) ++ M ++ U.take i) ++ y :: (V.drop (i + 1) ++ S) := by rw [hu, hv]; simp
      have e2 : P ++ (V.take (i + 1) ++ U.drop (i + 1)) ++ M ++ (U.take (i + 1) ++ V.drop (i + 1)) ++ S = (P ++ V.take i) ++ y :: (U.drop (i + 1) ++ M ++ U.take i) ++ x :: (V.drop (i + 1) ++ S) := by rw [hu2, hv2]; simp
      have la : (P ++ V.take i).length = a + i := by simp; omega
      have lb : (P ++ V.take i).length + 1 + (U.drop (i + 1) ++ M ++ U.take i).length = b + i := by simp; omega
      have hS := HS.out
      rw [e1] at hS
      have ll : ((P ++ V.take i) ++ x :: (U.drop (i + 1) ++ M ++ U.take i) ++ y :: (V.drop (i + 1) ++ S)).length = N := by simp; omega
      have HE2 := Lib.hid e2
      generalize P ++ V.take i = A at hS la lb ll HE2
      generalize U.drop (i + 1) ++ M ++ U.take i = B at hS lb ll HE2
      generalize V.drop (i + 1) ++ S = D at hS ll HE2
      have g1 : (A ++ x :: B ++ y :: D).toArray[a + i]! = x := by rw [← la, List.append_assoc, List.cons_append]; exact lget A x _
      have g2 : (A ++ x :: B ++ y :: D).toArray[b + i]! = y := by rw [← lb]; exact lget2 A x B y D
      have g3 : swp (A ++ x :: B ++ y :: D).toArray (a + i) (b + i) = (A ++ y :: B ++ x :: D).toArray := by rw [← la, ← lb, la]; exact la ▸ lswp A x B y D
      have bi : a + i < N := by omega
      have bj : b + i < N := by omega
      obtain ⟨c0, c1, f0, f1⟩ := hS.cells R (by omega) (i := a + i) (by omega)
      obtain ⟨d0, d1, k0, k1⟩ := hS.cells R (by omega) (i := b + i) (by omega)
      rw [g1] at c0 c1
      rw [g2] at d0 d1
      have HSW := Lib.hid (hS.swapped R (i := a + i) (j := b + i) (by omega) (by omega) g1 g2 g3)
      clear e1 e2 hu hv hu2 hv2 hx hy HS hS g1 g2 g3 ha hb hN hU hV hl
      have ea : ((a : Int) + (i : Int)).toNat = a + i := by omega
      have pa : (0 : Int) ≤ (a : Int) + (i : Int) := by omega
      have ba : (a : Int) + (i : Int) < (N : Int) := by omega
      have wa : IntKind.i64.wrap ((a : Int) + (i : Int)) = (a : Int) + (i : Int) := by rw [IntKind.wrap_i64]; omega
      have eb : ((b : Int) + (i : Int)).toNat = b + i := by omega
      have pb : (0 : Int) ≤ (b : Int) + (i : Int) := by omega
      have bb : (b : Int) + (i : Int) < (N : Int) := by omega
      have wb : IntKind.i64.wrap ((b : Int) + (i : Int)) = (b : Int) + (i : Int) := by rw [IntKind.wrap_i64]; omega
      go_wp2_with fail
      have mixed : Tryz.prog.follows .mixedOrders = true := by kernel_rfl
      go_big_region_o
      go_wp2_with fail
      go_roundg (n - (i + 1))
      case measure => omega
      case rel => exact ⟨i + 1, by go_num, rfl, by omega, Lib.hid (by rw [HE2.out]; exact HSW.out)⟩
    · obtain rfl : i = n := by omega
      have hltz : ¬ ((i : Nat) : Int) < (i : Int) := by omega
      have hS := HS.out
      rw [List.take_of_length_le (by omega), List.take_of_length_le (by omega), List.drop_eq_nil_of_le (by omega), List.drop_eq_nil_of_le (by omega), List.append_nil, List.append_nil] at hS
      go_wp2_with fail
      go_end0
      exact ⟨rfl, by simpa only [List.append_assoc] using hS⟩
end Go.Proofs.YtenfdnnagijfnaaGreatDoor

/-
  The library's stable sort at []classed: rotate.
-/
namespace Go.Proofs.YtenfdnnagijfnaaGreatDoor
open Go.RowKit Norm Go.Shelf Go.Sort Go.Lib

set_option maxRecDepth 100000 in
set_option maxHeartbeats 4000000 in
theorem rotate_any (w0 : World) (blk off cap N : Nat) (l0 : List C) (R : RowC w0 blk off l0) (P X Y S : List C) (a m b : Nat) (ha : a = P.length) (hm : m = P.length + X.length) (hb : b = P.length + X.length + Y.length) (hX : 0 < X.length) (hY : 0 < Y.length)
    (hN : N = l0.length) (hl : (P ++ X ++ Y ++ S).length = N) (h6 : N ≤ 1000000) (W : World) (hS : SWL w0 blk off (P ++ X ++ Y ++ S) W) :
    Calls Tryz.prog 138 #[.slice (some ⟨blk, off, none⟩) N cap, .int .i64 a, .int .i64 m, .int .i64 b, .func (.func 91) #[] #[]] W (SwOk w0 blk off (P ++ Y ++ X ++ S)) := by
  have HS0 := Lib.hid hS
  simp only [List.length_append] at hl
  have e1 : (m : Int) - (a : Int) = (X.length : Int) := by omega
  have e2 : (b : Int) - (m : Int) = (Y.length : Int) := by omega
  have hmN : m + Y.length ≤ N := by omega
  obtain ⟨F, hF⟩ : ∃ F, P ++ Y ++ X ++ S = F := ⟨_, rfl⟩
  have HF := Lib.hid hF
  have HL := Lib.hid hl
  have HMN := Lib.hid hm
  rw [hF]
  have HNN := Lib.hid hN
  clear hF hS ha hm hb hN
  go_enter Tryz.func138, Tryz.ntmps138
  go_wp2
  go_loopg [10, 11] (X.length + Y.length) (fun k s10 s11 wr => ∃ Q U V T : List C, s10 = .int .i64 (U.length : Int) ∧ s11 = .int .i64 (V.length : Int) ∧ k = U.length + V.length ∧ 0 < U.length ∧ 0 < V.length ∧ Q.length + U.length = m ∧ Q.length + U.length + V.length + T.length = N ∧ Hid (Q ++ V ++ U ++ T = F) ∧ Hid (SWL w0 blk off (Q ++ U ++ V ++ T) wr))
  case atStart => exact ⟨P, X, Y, S, by go_num, by go_num, rfl, hX, hY, HMN.out.symm, by have := HL.out; omega, HF, HS0⟩
  case round =>
    obtain ⟨Q, U, V, T, rfl, rfl, rfl, hU, hV, hQ, hT, HE, HS⟩ := hrel
    clear HS0 HF HL HMN hmN e1 e2 hl
    obtain ⟨i, hi⟩ : ∃ i, U.length = i := ⟨_, rfl⟩
    obtain ⟨j, hj⟩ : ∃ j, V.length = j := ⟨_, rfl⟩
    rw [hi, hj] at hT ⊢
    rw [hi] at hU hQ
    rw [hj] at hV
    have HI := Lib.hid hi
    have HJ := Lib.hid hj
    clear hi hj
    have hmi : (m : Int) - (i : Int) = (Q.length : Int) := by omega
    rcases Nat.lt_trichotomy i j with hij | hij | hij
    · -- i < j
      have HC : Hid (Calls Tryz.prog 147 #[.slice (some ⟨blk, off, none⟩) N cap, .int .i64 ((m : Int) - (i : Int)), .int .i64 ((m : Int) + (j : Int) - (i : Int)), .int .i64 (i : Int), .func (.func 91) #[] #[]] wr (SwOk w0 blk off (Q ++ V.drop (j - i) ++ V.take (j - i) ++ U ++ T))) := by
        have e : (m : Int) + (j : Int) - (i : Int) = ((Q.length + i + (j - i) : Nat) : Int) := by omega
        rw [hmi, e]
        have h1 : (V.drop (j - i)).length = i := by rw [List.length_drop, HJ.out]; omega
        have h2 : (V.take (j - i)).length = j - i := by rw [List.length_take, HJ.out]; omega
        have e3 : Q ++ U ++ V ++ T = Q ++ U ++ V.take (j - i) ++ V.drop (j - i) ++ T := by
          conv => lhs; rw [← List.take_append_drop (j - i) V]
          simp only [List.append_assoc]
        exact Lib.hid (swapRange_any w0 blk off cap N l0 R Q U (V.take (j - i)) (V.drop (j - i)) T i Q.length _ HI.out h1 rfl (by rw [h2]) HNN.out (by simp only [List.length_append, h1, h2, HI.out]; omega) h6 wr (by rw [← e3]; exact HS.out))
      have z1 : (i : Int) ≠ (j : Int) := by omega
      have z1b : ((i : Int) != (j : Int)) = true := by simp; omega
      have z2 : ¬ (j : Int) < (i : Int) := by omega
      clear hmi
      go_wp2_with (first | (go_at_call 147; refine HC.out.mono ?_; rintro e w2 ⟨rfl, hS2⟩) | fail)
      go_roundg j
      case measure => have := HI.out; have := HJ.out; omega
      case rel =>
        refine ⟨Q, V.drop (j - i), V.take (j - i), U ++ T, ?_, ?_, ?_, ?_, ?_, ?_, ?_, ?_, ?_⟩
        · rw [List.length_drop, HJ.out]; congr 1; omega
        · rw [List.length_take, HJ.out]; congr 1; omega
        · rw [List.length_drop, List.length_take, HJ.out]; omega
        · rw [List.length_drop, HJ.out]; omega
        · rw [List.length_take, HJ.out]; omega
        · rw [List.length_drop, HJ.out]; omega
        · rw [List.length_drop, List.length_take, List.length_append, HJ.out, HI.out]; omega
        · refine Lib.hid ?_
          rw [← HE.out, List.append_assoc Q, List.take_append_drop, List.append_assoc (Q ++ V)]
        · exact Lib.hid (by simpa only [List.append_assoc] using hS2)
    · -- i = j
      subst hij
      have z1b : ((i : Int) != (i : Int)) = false := by simp
      have HC : Hid (Calls Tryz.prog 147 #[.slice (some ⟨blk, off, none⟩) N cap, .int .i64 ((m : Int) - (i : Int)), .int .i64 (m : Int), .int .i64 (i : Int), .func (.func 91) #[] #[]] wr (SwOk w0 blk off (Q ++ V ++ [] ++ U ++ T))) := by
        rw [hmi]
        exact Lib.hid (swapRange_any w0 blk off cap N l0 R Q U [] V T i Q.length m HI.out HJ.out rfl (by simp; omega) HNN.out (by simp only [List.length_append, List.length_nil, HI.out, HJ.out]; omega) h6 wr (by rw [List.append_nil]; exact HS.out))
      clear hmi
      go_wp2_with (first | (go_at_call 147; refine HC.out.mono ?_; rintro e w2 ⟨rfl, hS2⟩) | fail)
      go_end0
      exact ⟨rfl, by rw [← HE.out]; simpa only [List.append_nil] using hS2⟩
    · -- j < i
      have HC : Hid (Calls Tryz.prog 147 #[.slice (some ⟨blk, off, none⟩) N cap, .int .i64 ((m : Int) - (i : Int)), .int .i64 (m : Int), .int .i64 (j : Int), .func (.func 91) #[] #[]] wr (SwOk w0 blk off (Q ++ V ++ U.drop j ++ U.take j ++ T))) := by
        rw [hmi]
        have h1 : (U.take j).length = j := by rw [List.length_take, HI.out]; omega
        have h2 : (U.drop j).length = i - j := by rw [List.length_drop, HI.out]
        have e3 : Q ++ U ++ V ++ T = Q ++ U.take j ++ U.drop j ++ V ++ T := by
          conv => lhs; rw [← List.take_append_drop j U]
          simp only [List.append_assoc]
        exact Lib.hid (swapRange_any w0 blk off cap N l0 R Q (U.take j) (U.drop j) V T j Q.length m h1 HJ.out rfl (by rw [h2]; omega) HNN.out (by simp only [List.length_append, h1, h2, HJ.out]; omega) h6 wr (by rw [← e3]; exact HS.out))
      have z1b : ((i : Int) != (j : Int)) = true := by simp; omega
      have z1 : (i : Int) ≠ (j : Int) := by omega
      have z2 : (j : Int) < (i : Int) := by omega
      clear hmi
      go_wp2_with (first | (go_at_call 147; refine HC.out.mono ?_; rintro e w2 ⟨rfl, hS2⟩) | fail)
      go_roundg i
      case measure => have := HI.out; have := HJ.out; omega
      case rel =>
        refine ⟨Q ++ V, U.drop j, U.take j, T, ?_, ?_, ?_, ?_, ?_, ?_, ?_, ?_, ?_⟩
        · rw [List.length_drop, HI.out]; congr 1; omega
        · rw [List.length_take, HI.out]; congr 1; omega
        · rw [List.length_drop, List.length_take, HI.out]; omega
        · rw [List.length_drop, HI.out]; omega
        · rw [List.length_take, HI.out]; omega
        · rw [List.length_append, List.length_drop, HI.out, HJ.out]; omega
        · rw [List.length_append, List.length_drop, List.length_take, HI.out, HJ.out]; omega
        · refine Lib.hid ?_
          rw [← HE.out, List.append_assoc (Q ++ V), List.take_append_drop]
        · exact Lib.hid hS2
end Go.Proofs.YtenfdnnagijfnaaGreatDoor
