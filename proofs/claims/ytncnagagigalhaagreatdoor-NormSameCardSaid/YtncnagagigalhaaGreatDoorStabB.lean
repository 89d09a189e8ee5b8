/-
  The library's stable sort at []classed: rotate.
-/
import Derived.Test.YtncnagagigalhaaGreatDoorStabA
namespace Go.Proofs.YtncnagagigalhaaGreatDoor
open Go.RowKit Norm Go.Shelf Go.Sort Go.Lib

set_option maxRecDepth 100000 in
set_option maxHeartbeats 4000000 in
theorem rotate_any (w0 : World) (blk off cap N : Nat) (l0 : List C) (R : RowC w0 blk off l0) (P X Y S : List C) (a m b : Nat) (ha : a = P.length) (hm : m = P.length + X.length) (hb : b = P.length + X.length + Y.length) (hX : 0 < X.length) (hY : 0 < Y.length)
    (hN : N = l0.length) (hl : (P ++ X ++ Y ++ S).length = N) (h6 : N ≤ 1000000) (W : World) (hS : SWL w0 blk off (P ++ X ++ Y ++ S) W) :
    Calls Tryz.prog 97 #[.slice (some ⟨blk, off, none⟩) N cap, .int .i64 a, .int .i64 m, .int .i64 b, .func (.func 58) #[] #[]] W (SwOk w0 blk off (P ++ Y ++ X ++ S)) := by
  have HS0 := Lib.hid hS
  simp only [List.length_append] at hl
  have e1 : (m : Int) - (a : Int) = (X.length : Int) := by omega
  have e2 : (b : Int) - (m : Int) = (Y.length : Int) := by omega
  have hmN : m + Y.length ≤ N := by omega
  obtain ⟨F, hF⟩ : ∃ F, P ++ Y ++ X ++ S = F := ⟨_, rfl⟩
  have HF := Lib.hid hF
  have HL := Lib.hid hl
  have HMN := Lib.hid hm
  rw [hF]
  have HNN := Lib.hid hN
  clear hF hS ha hm hb hN
  go_enter Tryz.func97, Tryz.ntmps97
  go_wp2
  go_loopg [10, 11] (X.length + Y.length) (fun k s10 s11 wr => ∃ Q U V T : List C, s10 = .int .i64 (U.length : Int) ∧ s11 = .int .i64 (V.length : Int) ∧ k = U.length + V.length ∧ 0 < U.length ∧ 0 < V.length ∧ Q.length + U.length = m ∧ Q.length + U.length + V.length + T.length = N ∧ Hid (Q ++ V ++ U ++ T = F) ∧ Hid (SWL w0 blk off (Q ++ U ++ V ++ T) wr))
  case atStart => exact ⟨P, X, Y, S, by go_num, by go_num, rfl, hX, hY, HMN.out.symm, by have := HL.out; omega, HF, HS0⟩
  case round =>
    obtain ⟨Q, U, V, T, rfl, rfl, rfl, hU, hV, hQ, hT, HE, HS⟩ := hrel
    clear HS0 HF HL HMN hmN e1 e2 hl
    obtain ⟨i, hi⟩ : ∃ i, U.length = i := ⟨_, rfl⟩
    obtain ⟨j, hj⟩ : ∃ j, V.length = j := ⟨_, rfl⟩
    rw [hi, hj] at hT ⊢
    rw [hi] at hU hQ
    rw [hj] at hV
    have HI := Lib.hid hi
    have HJ := Lib.hid hj
    clear hi hj
    have hmi : (m : Int) - (i : Int) = (Q.length : Int) := by omega
    rcases Nat.lt_trichotomy i j with hij | hij | hij
    · -- i < j
      have HC : Hid (Calls Tryz.prog 106 #[.slice (some ⟨blk, off, none⟩) N cap, .int .i64 ((m : Int) - (i : Int)), .int .i64 ((m : Int) + (j : Int) - (i : Int)), .int .i64 (i : Int), .func (.func 58) #[] #[]] wr (SwOk w0 blk off (Q ++ V.drop (j - i) ++ V.take (j - i) ++ U ++ T))) := by
        have e : (m : Int) + (j : Int) - (i : Int) = ((Q.length + i + (j - i) : Nat) : Int) := by omega
        rw [hmi, e]
        have h1 : (V.drop (j - i)).length = i := by rw [List.length_drop, HJ.out]; omega
        have h2 : (V.take (j - i)).length = j - i := by rw [List.length_take, HJ.out]; omega
        have e3 : Q ++ U ++ V ++ T = Q ++ U ++ V.take (j - i) ++ V.drop (j - i) ++ T := by
          conv => lhs; rw [← List.take_append_drop (j - i) V]
          simp only [List.append_assoc]
        exact Lib.hid (swapRange_any w0 blk off cap N l0 R Q U (V.take (j - i)) (V.drop (j - i)) T i Q.length _ HI.out h1 rfl (by rw [h2]) HNN.out (by simp only [List.length_append, h1, h2, HI.out]; omega) h6 wr (by rw [← e3]; exact HS.out))
      have z1 : (i : Int) ≠ (j : Int) := by omega
      have z1b : ((i : Int) != (j : Int)) = true := by simp; omega
      have z2 : ¬ (j : Int) < (i : Int) := by omega
      clear hmi
      go_wp2_with (first | (go_at_call 106; refine HC.out.mono ?_; rintro e w2 ⟨rfl, hS2⟩) | fail)
      go_roundg j
      case measure => have := HI.out; have := HJ.out; omega
      case rel =>
        refine ⟨Q, V.drop (j - i), V.take (j - i), U ++ T, ?_, ?_, ?_, ?_, ?_, ?_, ?_, ?_, ?_⟩
        · rw [List.length_drop, HJ.out]; congr 1; omega
        · rw [List.length_take, HJ.out]; congr 1; omega
        · rw [List.length_drop, List.length_take, HJ.out]; omega
        · rw [List.length_drop, HJ.out]; omega
        · rw [List.length_take, HJ.out]; omega
        · rw [List.length_drop, HJ.out]; omega
        · rw [List.length_drop, List.length_take, List.length_append, HJ.out, HI.out]; omega
        · refine Lib.hid ?_
          rw [← HE.out, List.append_assoc Q, List.take_append_drop, List.append_assoc (Q ++ V)]
        · exact Lib.hid (by simpa only [List.append_assoc] using hS2)
    · -- i = j
      subst hij
      have z1b : ((i : Int) != (i : Int)) = false := by simp
      have HC : Hid (Calls Tryz.prog 106 #[.slice (some ⟨blk, off, none⟩) N cap, .int .i64 ((m : Int) - (i : Int)), .int .i64 (m : Int), .int .i64 (i : Int), .func (.func 58) #[] #[]] wr (SwOk w0 blk off (Q ++ V ++ [] ++ U ++ T))) := by
        rw [hmi]
        exact Lib.hid (swapRange_any w0 blk off cap N l0 R Q U [] V T i Q.length m HI.out HJ.out rfl (by simp; omega) HNN.out (by simp only [List.length_append, List.length_nil, HI.out, HJ.out]; omega) h6 wr (by rw [List.append_nil]; exact HS.out))
      clear hmi
      go_wp2_with (first | (go_at_call 106; refine HC.out.mono ?_; rintro e w2 ⟨rfl, hS2⟩) | fail)
      go_end0
      exact ⟨rfl, by rw [← HE.out]; simpa only [List.append_nil] using hS2⟩
    · -- j < i
      have HC : Hid (Calls Tryz.prog 106 #[.slice (some ⟨blk, off, none⟩) N cap, .int .i64 ((m : Int) - (i : Int)), .int .i64 (m : Int), .int .i64 (j : Int), .func (.func 58) #[] #[]] wr (SwOk w0 blk off (Q ++ V ++ U.drop j ++ U.take j ++ T))) := by
        rw [hmi]
        have h1 : (U.take j).length = j := by rw [List.length_take, HI.out]; omega
        have h2 : (U.drop j).length = i - j := by rw [List.length_drop, HI.out]
        have e3 : Q ++ U ++ V ++ T = Q ++ U.take j ++ U.drop j ++ V ++ T := by
          conv => lhs; rw [← List.take_append_drop j U]
          simp only [List.append_assoc]
        exact Lib.hid (swapRange_any w0 blk off cap N l0 R Q (U.take j) (U.drop j) V T j Q.length m h1 HJ.out rfl (by rw [h2]; omega) HNN.out (by simp only [List.length_append, h1, h2, HJ.out]; omega) h6 wr (by rw [← e3]; exact HS.out))
      have z1b : ((i : Int) != (j : Int)) = true := by simp; omega
      have z1 : (i : Int) ≠ (j : Int) := by omega
      have z2 : (j : Int) < (i : Int) := by omega
      clear hmi
      go_wp2_with (first | (go_at_call 106; refine HC.out.mono ?_; rintro e w2 ⟨rfl, hS2⟩) | fail)
      go_roundg i
      case measure => have := HI.out; have := HJ.out; omega
      case rel =>
        refine ⟨Q ++ V, U.drop j, U.take j, T, ?_, ?_, ?_, ?_, ?_, ?_, ?_, ?_, ?_⟩
        · rw [List.length_drop, HI.out]; congr 1; omega
        · rw [List.length_take, HI.out]; congr 1; omega
        · rw [List.length_drop, List.length_take, HI.out]; omega
        · rw [List.length_drop, HI.out]; omega
        · rw [List.length_take, HI.out]; omega
        · rw [List.length_append, List.length_drop, HI.out, HJ.out]; omega
        · rw [List.length_append, List.length_drop, List.length_take, HI.out, HJ.out]; omega
        · refine Lib.hid ?_
          rw [← HE.out, List.append_assoc (Q ++ V), List.take_append_drop]
        · exact Lib.hid hS2
end Go.Proofs.YtncnagagigalhaaGreatDoor
