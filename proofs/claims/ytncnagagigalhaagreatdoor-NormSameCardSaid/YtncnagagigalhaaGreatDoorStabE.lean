/-
  The library's stable sort at []classed: symMerge where the second run is of one.
-/
import Derived.Test.YtncnagagigalhaaGreatDoorStabC
import Derived.Deep.DeepCutAuto
namespace Go.Proofs.YtncnagagigalhaaGreatDoor
open Go.RowKit Norm Go.Shelf Go.Sort Go.Lib

theorem lswp2 (A : List C) (x : C) (B : List C) (y : C) (D : List C) : swp (A ++ x :: B ++ y :: D).toArray (A.length + 1 + B.length) A.length = (A ++ y :: B ++ x :: D).toArray := by
  have e1 : (A ++ x :: B ++ y :: D).toArray[A.length]! = x := by rw [List.append_assoc, List.cons_append]; exact lget A x _
  have e2 := lget2 A x B y D
  apply Array.ext'
  unfold swp
  rw [e1, e2]
  have : ((A ++ x :: B ++ y :: D).set (A.length + 1 + B.length) x).set A.length y = A ++ y :: B ++ x :: D := by
    rw [List.append_assoc, List.cons_append, List.set_append_right _ _ (by omega), show A.length + 1 + B.length - A.length = B.length + 1 from by omega, List.set_cons_succ, List.set_append_right _ _ (Nat.le_refl _), Nat.sub_self, List.set_cons_zero, List.set_append_right _ _ (Nat.le_refl _), Nat.sub_self, List.set_cons_zero]
    simp
  simpa using this

set_option maxRecDepth 100000 in
set_option maxHeartbeats 4000000 in
theorem sm_last (w0 : World) (blk off cap N : Nat) (l0 : List C) (R : RowC w0 blk off l0) (P : List C) (X : List C) (y : C) (S : List C) (a m b n1 : Nat) (ha : a = P.length) (hn1 : X.length = n1) (h1 : 1 < n1) (hm : m = P.length + n1) (hb : b = P.length + n1 + 1) (hX : Srt X)
    (hN : N = l0.length) (hl : (P ++ X ++ [y] ++ S).length = N) (h6 : N ≤ 1000000) (W : World) (hS : SWL w0 blk off (P ++ X ++ [y] ++ S) W) :
    Calls Tryz.prog 87 #[.slice (some ⟨blk, off, none⟩) N cap, .int .i64 a, .int .i64 m, .int .i64 b, .func (.func 58) #[] #[]] W (SwOk w0 blk off (P ++ isort (X ++ [y]) ++ S)) := by
  have mixed : Tryz.prog.follows .mixedOrders = true := by kernel_rfl
  have HS0 := Lib.hid hS
  obtain ⟨F, hF⟩ : ∃ F, P ++ isort (X ++ [y]) ++ S = F := ⟨_, rfl⟩
  have HF := Lib.hid hF
  rw [hF]
  clear hF
  have hln : a + n1 + 1 + S.length = N := by simp at hl; omega
  have HL := Lib.hid hl
  have HNN := Lib.hid hN
  have HP := Lib.hid ha
  have HXL := Lib.hid hn1
  have hgy : (P ++ X ++ [y] ++ S).toArray[m]! = y := by rw [hm, ← hn1]; exact at_Y (Y := [y]) (i := 0) (by simp)
  have hgx : ∀ i, i < n1 → (P ++ X ++ [y] ++ S).toArray[a + i]! = X[i]! := fun i hi => by rw [ha]; exact at_X (by omega)
  have HGX := Lib.hid hgx
  have HGY := Lib.hid hgy
  have e1 : (m : Int) - (a : Int) = (n1 : Int) := by omega
  have n1b : ((n1 : Int) == 1) = false := by simp; omega
  have n1p : ¬ (n1 : Int) = 1 := by omega
  have e2 : (b : Int) - (m : Int) = 1 := by omega
  have hm' : m = a + n1 := by omega
  have HM := Lib.hid hm'
  have hmN : m < N := by omega
  have haN : a < N := by omega
  have hbN : b ≤ N := by omega
  clear hS hl hN hgx hgy ha hm hb hm' hn1
  go_enter Tryz.func87, Tryz.ntmps87
  go_wp2
  clear e1 e2 n1b n1p
  go_loopg [14, 15] n1 (fun k s14 s15 wr => ∃ i j : Nat, s14 = .int .i64 (i : Int) ∧ s15 = .int .i64 (j : Int) ∧ k = j - i ∧ a ≤ i ∧ i ≤ j ∧ j ≤ m ∧ Hid (a < i → X[i - a - 1]!.2 ≤ y.2) ∧ Hid (j < m → y.2 < X[j - a]!.2) ∧ Hid (SWL w0 blk off (P ++ X ++ [y] ++ S) wr))
  case atStart => exact ⟨a, m, rfl, rfl, by have := HM.out; omega, Nat.le_refl _, by have := HM.out; omega, Nat.le_refl _, Lib.hid (fun h => absurd h (by omega)), Lib.hid (fun h => absurd h (by omega)), HS0⟩
  case round =>
    obtain ⟨i, j, rfl, rfl, rfl, hi, hij, hj, H1, H2, HS⟩ := hrel
    clear HS0
    by_cases hlt : i < j
    · have hltz : (i : Int) < (j : Int) := by omega
      obtain ⟨h, hh⟩ : ∃ h, h = (i + j) / 2 := ⟨_, rfl⟩
      have hhi : i ≤ h := by omega
      have hhj : h < j := by omega
      have hcast : ((i : Int) + (j : Int)) / 2 = (h : Int) := by omega
      have aN := HM.out
      have hhN : h < N := by omega
      have sN : i + j ≤ 2000000 := by omega
      clear hh
      go_upto_region 16 with fail
      go_cut [16] (fun s16 wx => s16 = .int .i64 (h : Int) ∧ wx = wr)
      case first =>
        clear aN
        go_wp2_with fail
        go_meet
        exact ⟨by first | rfl | go_num, rfl⟩
      case rest =>
        obtain ⟨rfl, hwc⟩ := hcut
        rw [hwc]
        clear hwc hcast
        have hlen : (P ++ X ++ [y] ++ S).length = l0.length := HL.out.trans HNN.out
        obtain ⟨x, hx⟩ : ∃ x, X[h - a]! = x := ⟨_, rfl⟩
        have hgx : (P ++ X ++ [y] ++ S).toArray[h]! = x := by
          have := HGX.out (h - a) (by omega)
          rw [show a + (h - a) = h from by omega, hx] at this
          exact this
        obtain ⟨c0, c1⟩ := SWL.cells_g HS.out R hlen (i := h) (by rw [HL.out]; omega) hgx
        obtain ⟨d0, d1⟩ := SWL.cells_g HS.out R hlen (i := m) (by rw [HL.out]; omega) HGY.out
        have hcc := cmp_call y x wr
        have HX := Lib.hid hx
        have hhz : (h : Int) < (N : Int) := by omega
        have hmz : (m : Int) < (N : Int) := by omega
        have HS2 : Hid (∀ n os, SWL w0 blk off (P ++ X ++ [y] ++ S) (grow (wr.drewN n) os)) := Lib.hid (fun n os => HS.out.grown n os)
        clear hx hgx hlen aN HS
        by_cases hlt2 : y.2 < x.2
        · have hz := cmpZ_lt.2 hlt2
          have hzb : decide (cmpZ y.2 x.2 < 0) = true := decide_eq_true hz
          go_wp2_with fail
          go_quiet_grown (first | (go_at_call 58; exact hcc _ _))
          go_wp2_with fail
          go_roundg (h - i)
          case measure => omega
          case rel => exact ⟨i, h, rfl, rfl, rfl, hi, by omega, by omega, H1, Lib.hid (fun _ => by rw [HX.out]; exact hlt2), Lib.hid (HS2.out _ _)⟩
        · have hz : ¬ cmpZ y.2 x.2 < 0 := fun h => hlt2 (cmpZ_lt.1 h)
          have hzb : decide (cmpZ y.2 x.2 < 0) = false := decide_eq_false hz
          have hzc : 0 ≤ cmpZ y.2 x.2 := by omega
          go_wp2_with fail
          go_quiet_grown (first | (go_at_call 58; exact hcc _ _))
          go_wp2_with fail
          go_roundg (j - (h + 1))
          case measure => omega
          case rel => exact ⟨h + 1, j, by go_num, rfl, rfl, by omega, by omega, hj, Lib.hid (fun _ => by rw [show h + 1 - a - 1 = h - a from by omega, HX.out]; omega), H2, Lib.hid (HS2.out _ _)⟩
    · obtain rfl : i = j := by omega
      have hltz : ¬ ((i : Nat) : Int) < (i : Int) := by omega
      have aN := HM.out
      have xN := HXL.out
      obtain ⟨e, he⟩ : ∃ e, e = i - a := ⟨_, rfl⟩
      have heX : e ≤ n1 := by omega
      have HMG : Hid (P ++ isort (X ++ [y]) ++ S = P ++ X.take e ++ [y] ++ X.drop e ++ S) := Lib.hid (by
        rw [merge_last (k := e) hX (by omega) (fun h => by have := H2.out (by omega); rw [he]; exact this) (fun h => by have := H1.out (by omega); rw [he]; exact this)]
        simp only [List.append_assoc])
      have hie : i = a + e := by omega
      have HSE : Hid (SWL w0 blk off (P ++ X.take n1 ++ [y] ++ X.drop n1 ++ S) wr) := Lib.hid (by rw [List.take_of_length_le (by omega), List.drop_eq_nil_of_le (by omega), List.append_nil]; exact HS.out)
      have HIE := Lib.hid hie
      clear he H1 H2 HS HL hi hij hj HGX HGY hlt hie aN xN
      go_wp2_with fail
      go_loopg [17] (n1 - e) (fun k s17 wr => ∃ q c : Nat, s17 = .int .i64 (c : Int) ∧ c = a + q ∧ k = q - e ∧ e ≤ q ∧ q ≤ n1 ∧ Hid (SWL w0 blk off (P ++ X.take q ++ [y] ++ X.drop q ++ S) wr))
      case atStart => exact ⟨n1, m, rfl, HM.out, rfl, heX, Nat.le_refl _, HSE⟩
      case round =>
        obtain ⟨q, c, rfl, hc, rfl, hq, hqn, HS⟩ := hrel
        clear HSE
        have hie := HIE.out
        by_cases hlt : e < q
        · obtain ⟨q, rfl⟩ : ∃ q', q = q' + 1 := ⟨q - 1, by omega⟩
          obtain ⟨c, rfl⟩ : ∃ c', c = c' + 1 := ⟨c - 1, by omega⟩
          have hltz : (i : Int) < (c : Int) + 1 := by omega
          have xN := HXL.out
          have hx : X.drop q = X[q] :: X.drop (q + 1) := List.drop_eq_getElem_cons (by omega)
          have hx2 : X.take (q + 1) = X.take q ++ [X[q]] := by rw [List.take_add_one, List.getElem?_eq_getElem (by omega)]; rfl
          obtain ⟨x, hxx⟩ : ∃ x, X[q] = x := ⟨_, rfl⟩
          rw [hxx] at hx hx2
          have q1 : P ++ X.take (q + 1) ++ [y] ++ X.drop (q + 1) ++ S = (P ++ X.take q) ++ x :: [] ++ y :: (X.drop (q + 1) ++ S) := by rw [hx2]; simp
          have q2 : P ++ X.take q ++ [y] ++ X.drop q ++ S = (P ++ X.take q) ++ y :: [] ++ x :: (X.drop (q + 1) ++ S) := by rw [hx]; simp
          have la : (P ++ X.take q).length = c := by have := HP.out; simp; omega
          have hS := HS.out
          rw [q1] at hS
          have ll : ((P ++ X.take q) ++ x :: [] ++ y :: (X.drop (q + 1) ++ S)).length = N := by have := HP.out; simp; omega
          obtain ⟨LQ, hLQ⟩ : ∃ LQ, P ++ X.take q ++ [y] ++ X.drop q ++ S = LQ := ⟨_, rfl⟩
          have HLQ := Lib.hid hLQ
          rw [hLQ] at q2
          have HQ2 := Lib.hid q2
          clear hLQ
          generalize P ++ X.take q = A at hS la ll HQ2
          generalize X.drop (q + 1) ++ S = D at hS ll HQ2
          have g1 : (A ++ x :: [] ++ y :: D).toArray[c]! = x := by rw [← la, List.append_assoc, List.cons_append]; exact lget A x _
          have g2 : (A ++ x :: [] ++ y :: D).toArray[c + 1]! = y := by rw [← la]; exact lget2 A x [] y D
          have g3 : swp (A ++ x :: [] ++ y :: D).toArray (c + 1) c = (A ++ y :: [] ++ x :: D).toArray := by rw [← la]; exact lswp2 A x [] y D
          have hNN := HNN.out
          obtain ⟨c0, c1, f0, f1⟩ := hS.cells R (by omega) (i := c) (by omega)
          obtain ⟨d0, d1, k0, k1⟩ := hS.cells R (by omega) (i := c + 1) (by omega)
          rw [g1] at c0 c1
          rw [g2] at d0 d1
          have HSW := Lib.hid (hS.swapped R (i := c + 1) (j := c) (by omega) (by omega) g2 g1 g3)
          have HC := Lib.hid hc
          have bc : (c : Int) < (N : Int) := by omega
          have bc1 : (c : Int) + 1 < (N : Int) := by omega
          have ec : ((c : Int) + 1).toNat = c + 1 := by omega
          have pc : (0 : Int) ≤ (c : Int) + 1 := by omega
          have pc0 : (0 : Int) ≤ (c : Int) := by omega
          have wc1 : IntKind.i64.wrap (c : Int) = (c : Int) := by rw [IntKind.wrap_i64]; omega
          clear q1 q2 hx hx2 hxx HS hS g1 g2 g3 hNN hie la ll hc xN
          go_wp2_with fail
          go_big_region_o
          go_wp2_with fail
          go_roundg (q - e)
          case measure => omega
          case rel => exact ⟨q, c, by go_num, by have := HC.out; omega, rfl, by omega, by omega, Lib.hid (by rw [HLQ.out, HQ2.out]; exact HSW.out)⟩
        · obtain rfl : q = e := by omega
          have hltz : ¬ (i : Int) < (c : Int) := by omega
          go_wp2_with fail
          go_end0
          exact ⟨rfl, by rw [← HF.out, HMG.out]; exact HS.out⟩
end Go.Proofs.YtncnagagigalhaaGreatDoor
