/-
  The library's stable sort at []classed: symMerge where the first run is of one.
-/
import Derived.Test.YtncnagagigalhaaGreatDoorStabC
import Derived.Deep.DeepCutAuto
namespace Go.Proofs.YtncnagagigalhaaGreatDoor
open Go.RowKit Norm Go.Shelf Go.Sort Go.Lib

set_option maxRecDepth 100000 in
set_option maxHeartbeats 4000000 in
theorem sm_one (w0 : World) (blk off cap N : Nat) (l0 : List C) (R : RowC w0 blk off l0) (P : List C) (x : C) (Y S : List C) (a m b : Nat) (ha : a = P.length) (hm : m = P.length + 1) (hb : b = P.length + 1 + Y.length) (hY : Srt Y)
    (hN : N = l0.length) (hl : (P ++ [x] ++ Y ++ S).length = N) (h6 : N ≤ 1000000) (W : World) (hS : SWL w0 blk off (P ++ [x] ++ Y ++ S) W) :
    Calls Tryz.prog 87 #[.slice (some ⟨blk, off, none⟩) N cap, .int .i64 a, .int .i64 m, .int .i64 b, .func (.func 58) #[] #[]] W (SwOk w0 blk off (P ++ isort ([x] ++ Y) ++ S)) := by
  have mixed : Tryz.prog.follows .mixedOrders = true := by kernel_rfl
  have HS0 := Lib.hid hS
  obtain ⟨F, hF⟩ : ∃ F, P ++ isort ([x] ++ Y) ++ S = F := ⟨_, rfl⟩
  have HF := Lib.hid hF
  rw [hF]
  clear hF
  have hln : a + 1 + Y.length + S.length = N := by simp at hl; omega
  have HL := Lib.hid hl
  have HNN := Lib.hid hN
  have HP := Lib.hid ha
  have hgx : (P ++ [x] ++ Y ++ S).toArray[a]! = x := by rw [ha]; exact at_X (X := [x]) (i := 0) (by simp)
  have hgy : ∀ i, i < Y.length → (P ++ [x] ++ Y ++ S).toArray[m + i]! = Y[i]! := fun i hi => by rw [hm]; exact at_Y (X := [x]) hi
  have HGX := Lib.hid hgx
  have HGY := Lib.hid hgy
  have e1 : (m : Int) - (a : Int) = 1 := by omega
  have hm' : m = a + 1 := by omega
  have hb' : b = m + Y.length := by omega
  have HM := Lib.hid hm'
  have HB := Lib.hid hb'
  clear hm' hb'
  clear hS hl hN hgx hgy ha hm hb
  go_enter Tryz.func87, Tryz.ntmps87
  go_wp2
  clear e1
  go_loopg [10, 11] Y.length (fun k s10 s11 wr => ∃ i j : Nat, s10 = .int .i64 (i : Int) ∧ s11 = .int .i64 (j : Int) ∧ k = j - i ∧ m ≤ i ∧ i ≤ j ∧ j ≤ b ∧ Hid (m < i → Y[i - m - 1]!.2 < x.2) ∧ Hid (j < b → x.2 ≤ Y[j - m]!.2) ∧ Hid (SWL w0 blk off (P ++ [x] ++ Y ++ S) wr))
  case atStart => exact ⟨m, b, rfl, rfl, by have := HB.out; omega, Nat.le_refl _, by have := HB.out; omega, Nat.le_refl _, Lib.hid (fun h => absurd h (by omega)), Lib.hid (fun h => absurd h (by omega)), HS0⟩
  case round =>
    obtain ⟨i, j, rfl, rfl, rfl, hi, hij, hj, H1, H2, HS⟩ := hrel
    clear HS0
    by_cases hlt : i < j
    · have hltz : (i : Int) < (j : Int) := by omega
      obtain ⟨h, hh⟩ : ∃ h, h = (i + j) / 2 := ⟨_, rfl⟩
      have hhi : i ≤ h := by omega
      have hhj : h < j := by omega
      have hcast : ((i : Int) + (j : Int)) / 2 = (h : Int) := by omega
      have bN := HB.out
      have aN := HM.out
      have hhN : h < N := by omega
      have haN : a < N := by omega
      have sN : i + j ≤ 2000000 := by omega
      clear hh
      go_upto_region 4 with fail
      go_cut [12] (fun s12 wx => s12 = .int .i64 (h : Int) ∧ wx = wr)
      case first =>
        clear bN aN
        go_wp2_with fail
        go_meet
        exact ⟨by first | rfl | go_num, rfl⟩
      case rest =>
        obtain ⟨rfl, hwc⟩ := hcut
        rw [hwc]
        clear hwc hcast
        have hlen : (P ++ [x] ++ Y ++ S).length = l0.length := HL.out.trans HNN.out
        obtain ⟨y, hy⟩ : ∃ y, Y[h - m]! = y := ⟨_, rfl⟩
        have hgy : (P ++ [x] ++ Y ++ S).toArray[h]! = y := by
          have := HGY.out (h - m) (by omega)
          rw [show m + (h - m) = h from by omega, hy] at this
          exact this
        obtain ⟨c0, c1⟩ := SWL.cells_g HS.out R hlen (i := h) (by rw [HL.out]; omega) hgy
        obtain ⟨d0, d1⟩ := SWL.cells_g HS.out R hlen (i := a) (by rw [HL.out]; omega) HGX.out
        have hcc := cmp_call y x wr
        have HY := Lib.hid hy
        have hhz : (h : Int) < (N : Int) := by omega
        have haz : (a : Int) < (N : Int) := by omega
        have HS2 : Hid (∀ n os, SWL w0 blk off (P ++ [x] ++ Y ++ S) (grow (wr.drewN n) os)) := Lib.hid (fun n os => HS.out.grown n os)
        clear hy hgy hlen bN aN HS
        by_cases hlt2 : y.2 < x.2
        · have hz := cmpZ_lt.2 hlt2
          go_wp2_with fail
          go_quiet_grown (first | (go_at_call 58; exact hcc _ _))
          go_wp2_with fail
          go_roundg (j - (h + 1))
          case measure => omega
          case rel => exact ⟨h + 1, j, by go_num, rfl, rfl, by omega, by omega, hj, Lib.hid (fun _ => by rw [show h + 1 - m - 1 = h - m from by omega, HY.out]; exact hlt2), H2, Lib.hid (HS2.out _ _)⟩
        · have hz : ¬ cmpZ y.2 x.2 < 0 := fun h => hlt2 (cmpZ_lt.1 h)
          go_wp2_with fail
          go_quiet_grown (first | (go_at_call 58; exact hcc _ _))
          go_wp2_with fail
          go_roundg (h - i)
          case measure => omega
          case rel => exact ⟨i, h, rfl, rfl, rfl, hi, by omega, by omega, H1, Lib.hid (fun _ => by rw [HY.out]; omega), Lib.hid (HS2.out _ _)⟩
    · obtain rfl : i = j := by omega
      have hltz : ¬ ((i : Nat) : Int) < (i : Int) := by omega
      have bN := HB.out
      have aN := HM.out
      obtain ⟨e, he⟩ : ∃ e, e = i - m := ⟨_, rfl⟩
      have heY : e ≤ Y.length := by omega
      have HMG : Hid (P ++ isort ([x] ++ Y) ++ S = P ++ Y.take e ++ [x] ++ Y.drop e ++ S) := Lib.hid (by
        rw [merge_one hY heY (fun h => by have := H1.out (by omega); rw [he]; exact this) (fun h => by have := H2.out (by omega); rw [he]; exact this)]
        simp only [List.append_assoc])
      have hie : i = a + 1 + e := by omega
      have HSE : Hid (SWL w0 blk off (P ++ Y.take 0 ++ [x] ++ Y.drop 0 ++ S) wr) := Lib.hid (by rw [List.take_zero, List.append_nil, List.drop_zero]; exact HS.out)
      have heN : a + 1 + e ≤ N := by omega
      have HIE := Lib.hid hie
      clear bN aN he H1 H2 HS HM HB HL hltz hi hij hj HGX HGY hlt hie
      have hiz : ((i : Int) < (i : Int)) = False := by simp
      go_wp2_with fail
      clear hiz
      go_loopg [13] e (fun k s13 wr => ∃ t c : Nat, s13 = .int .i64 (c : Int) ∧ c = a + t ∧ k = e - t ∧ t ≤ e ∧ Hid (SWL w0 blk off (P ++ Y.take t ++ [x] ++ Y.drop t ++ S) wr))
      case atStart => exact ⟨0, a, rfl, rfl, rfl, Nat.zero_le _, HSE⟩
      case round =>
        obtain ⟨t, c, rfl, hc, rfl, ht, HS⟩ := hrel
        clear HSE
        have hie := HIE.out
        by_cases hlt : t < e
        · have hltz : (c : Int) < (i : Int) - 1 := by omega
          have hy : Y.drop t = Y[t] :: Y.drop (t + 1) := List.drop_eq_getElem_cons (by omega)
          have hy2 : Y.take (t + 1) = Y.take t ++ [Y[t]] := by rw [List.take_add_one, List.getElem?_eq_getElem (by omega)]; rfl
          obtain ⟨y, hyy⟩ : ∃ y, Y[t] = y := ⟨_, rfl⟩
          rw [hyy] at hy hy2
          have q1 : P ++ Y.take t ++ [x] ++ Y.drop t ++ S = (P ++ Y.take t) ++ x :: [] ++ y :: (Y.drop (t + 1) ++ S) := by rw [hy]; simp
          have q2 : P ++ Y.take (t + 1) ++ [x] ++ Y.drop (t + 1) ++ S = (P ++ Y.take t) ++ y :: [] ++ x :: (Y.drop (t + 1) ++ S) := by rw [hy2]; simp
          have la : (P ++ Y.take t).length = c := by have := HP.out; simp; omega
          have hS := HS.out
          rw [q1] at hS
          have ll : ((P ++ Y.take t) ++ x :: [] ++ y :: (Y.drop (t + 1) ++ S)).length = N := by have := HP.out; simp; omega
          have HQ2 := Lib.hid q2
          generalize P ++ Y.take t = A at hS la ll HQ2
          generalize Y.drop (t + 1) ++ S = D at hS ll HQ2
          have g1 : (A ++ x :: [] ++ y :: D).toArray[c]! = x := by rw [← la, List.append_assoc, List.cons_append]; exact lget A x _
          have g2 : (A ++ x :: [] ++ y :: D).toArray[c + 1]! = y := by rw [← la]; exact lget2 A x [] y D
          have g3 : swp (A ++ x :: [] ++ y :: D).toArray c (c + 1) = (A ++ y :: [] ++ x :: D).toArray := by rw [← la]; exact lswp A x [] y D
          have hNN := HNN.out
          obtain ⟨c0, c1, f0, f1⟩ := hS.cells R (by omega) (i := c) (by omega)
          obtain ⟨d0, d1, k0, k1⟩ := hS.cells R (by omega) (i := c + 1) (by omega)
          rw [g1] at c0 c1
          rw [g2] at d0 d1
          have HSW := Lib.hid (hS.swapped R (i := c) (j := c + 1) (by omega) (by omega) g1 g2 g3)
          have HC := Lib.hid hc
          have iN : i ≤ N := by omega
          have i1 : 1 ≤ i := by omega
          have wi : IntKind.i64.wrap ((i : Int) - 1) = (i : Int) - 1 := by rw [IntKind.wrap_i64]; omega
          have bc : (c : Int) < (N : Int) := by omega
          have bc1 : (c : Int) + 1 < (N : Int) := by omega
          have ec : ((c : Int) + 1).toNat = c + 1 := by omega
          have pc : (0 : Int) ≤ (c : Int) + 1 := by omega
          have wc1 : IntKind.i64.wrap ((c : Int) + 1) = (c : Int) + 1 := by rw [IntKind.wrap_i64]; omega
          clear q1 q2 hy hy2 hyy HS hS g1 g2 g3 hNN hie la ll hc
          go_wp2_with fail
          go_big_region_o
          go_wp2_with fail
          go_roundg (e - (t + 1))
          case measure => omega
          case rel => exact ⟨t + 1, c + 1, by go_num, by have := HC.out; omega, rfl, by omega, Lib.hid (by rw [HQ2.out]; exact HSW.out)⟩
        · obtain rfl : t = e := by omega
          have hltz : ¬ (c : Int) < (i : Int) - 1 := by omega
          have iN : i ≤ N := by omega
          have wi : IntKind.i64.wrap ((i : Int) - 1) = (i : Int) - 1 := by rw [IntKind.wrap_i64]; omega
          go_wp2_with fail
          go_end0
          exact ⟨rfl, by rw [← HF.out, HMG.out]; exact HS.out⟩
end Go.Proofs.YtncnagagigalhaaGreatDoor
