/-
  The document's own answer of layer 4: read, cut.
-/
import Derived.Test.YtcdjjodiiaahfaaPunyX
import Derived.Deep.DeepCutAuto
import Derived.Deep.LoopGhost
namespace Go.Proofs.Ytcdjjodiiaahfaa
open Go.RowKit Go.Shelf Puny

abbrev most : Nat := 11143348224
/-- a number and the place behind it; -1: none -/
def ReadV (r : Nat × Nat) (at' : Nat) : Value := if r.2 = 0 then .tuple #[.int .i64 0, .int .i64 (-1)] else .tuple #[.int .i64 (r.1 : Int), .int .i64 ((at' + r.2 : Nat) : Int)]
def Readed (r : Nat × Nat) (at' : Nat) (w : World) (e : Ending) (w' : World) : Prop := e = .returned (ReadV r at') ∧ w = w'
theorem readed_none {r : Nat × Nat} {at' : Nat} {w : World} (h : r = (0, 0)) : Readed r at' w (.returned (.tuple #[.int .i64 0, .int .i64 (-1)])) w := by subst h; exact ⟨rfl, rfl⟩
theorem readed_some {r : Nat × Nat} {at' v k : Nat} {z : Int} {w : World} (h : r = (v, k + 1)) (hz : z = ((at' + (k + 1) : Nat) : Int)) : Readed r at' w (.returned (.tuple #[.int .i64 (v : Int), .int .i64 z])) w := by
  subst h hz; exact ⟨by simp [ReadV], rfl⟩

theorem wz_some {c : UInt8} {x : Nat} (h : worth c = some x) : wz c = (x : Int) := by unfold wz; rw [h]
theorem wz_none {c : UInt8} (h : worth c = none) : wz c = -1 := by unfold wz; rw [h]

set_option maxRecDepth 100000 in
set_option maxHeartbeats 4000000 in
theorem rRead_any (s : ByteArray) (at0 lead : Nat) (w : World) (hs : s.size ≤ 1000000) (hat : at0 ≤ s.size) (hl : lead ≤ 1000000000000) :
    Calls Try.prog 35 #[.string s, .int .i64 at0, .int .i64 lead] w (Readed (numR lead (most + 1) (s.data.toList.drop at0)) at0 w) := by
  obtain ⟨R, hR⟩ : ∃ R, numR lead (most + 1) (s.data.toList.drop at0) = R := ⟨_, rfl⟩
  have HR0 : Hid (numG lead (most + 1) 0 1 0 (s.data.toList.drop at0) = R) := Lib.hid (by rw [← numG_start, hR])
  rw [hR]
  clear hR
  go_enter Try.func35, Try.ntmps35
  go_wp2
  go_loopg [1, 8, 9, 10] (s.size - at0) (fun g s1 s8 s9 s10 wr => ∃ (j acc weight : Nat), s1 = .int .i64 ((at0 + j : Nat) : Int) ∧ s8 = .int .i64 (acc : Int) ∧ s9 = .int .i64 (weight : Int) ∧ s10 = .int .i64 ((j + 1 : Nat) : Int) ∧ at0 + j + g = s.size ∧ acc ≤ 11143348224 ∧ 1 ≤ weight ∧ weight ≤ 35 * 11143348224 ∧ Hid (numG lead (most + 1) acc weight j (s.data.toList.drop (at0 + j)) = R) ∧ wr = w)
  case atStart => exact ⟨0, 0, 1, rfl, rfl, rfl, rfl, by omega, by omega, by omega, by omega, HR0, rfl⟩
  case round =>
    clear HR0
    obtain ⟨j, acc, u, rfl, rfl, rfl, rfl, hjg, hacc, hu1, hu, HR, hwr⟩ := hrel
    rw [hwr]
    clear hwr
    obtain ⟨k, hk⟩ : ∃ k, at0 + j = k := ⟨_, rfl⟩
    rw [hk] at hjg HR ⊢
    have HK := Lib.hid hk
    have hjk : j ≤ 1000000 := by omega
    clear hk hat
    rcases gk with _ | g
    · obtain rfl : k = s.size := by omega
      have HE : Hid (R = (0, 0)) := Lib.hid (by rw [← HR.out, List.drop_of_length_le (by rw [Lib.size_eq]; exact Nat.le_refl _)]; rfl)
      go_wp2
      go_ret2
      exact readed_none HE.out
    · have hks : k < s.size := by omega
      have hkz : (k : Int) < (s.size : Int) := by omega
      have hdrop : s.data.toList.drop k = s[k] :: s.data.toList.drop (k + 1) := List.drop_eq_getElem_cons (by simpa using hks)
      rw [hdrop] at HR
      have hcw := rWorth_any s[k] w
      cases hc : worth s[k] with
      | none =>
        rw [wz_none hc] at hcw
        have HC := Lib.hid hcw
        have HE : Hid (R = (0, 0)) := Lib.hid (by rw [← HR.out]; exact numG_bad hc)
        clear hcw hc hdrop HR
        go_wp2_with (first | (go_at_call 52; refine HC.out.mono ?_; rintro e w' ⟨rfl, rfl⟩) | fail)
        go_ret2
        exact readed_none HE.out
      | some x =>
        have hx36 := (sign_worth hc).2
        rw [wz_some hc] at hcw
        have HC := Lib.hid hcw
        have HWX := Lib.hid hc
        obtain ⟨P, hP⟩ : ∃ P, u * x = P := ⟨_, rfl⟩
        have hPb : P ≤ 35 * 11143348224 * 36 := by rw [← hP]; exact Nat.mul_le_mul hu (by omega)
        have HP := Lib.hid hP
        have hPz : (x : Int) * (u : Int) = (P : Int) := by rw [← hP, Nat.mul_comm]; simp
        by_cases hbig : 0 < x ∧ 11143348224 < u
        · have HE : Hid (R = (0, 0)) := Lib.hid (by
            rw [← HR.out]
            refine numG_great hc ?_
            have : u * 1 ≤ u * x := Nat.mul_le_mul_left _ hbig.1
            unfold most
            omega)
          have z1 : ¬ (x : Int) < 0 := by omega
          have z2 : (0 : Int) < (x : Int) := by omega
          have z3 : (11143348224 : Int) < (u : Int) := by omega
          clear hcw hc hdrop HR hP hPz hbig
          go_wp2_with (first | (go_at_call 52; refine HC.out.mono ?_; rintro e w' ⟨rfl, rfl⟩) | fail)
          go_ret2
          exact readed_none HE.out
        · have hcase : Hid (0 < x → u ≤ 11143348224) := Lib.hid (fun h => by omega)
          have z1 : ¬ (x : Int) < 0 := by omega
          clear hcw hdrop hP
          go_upto_region 7 with (first | (go_at_call 52; refine HC.out.mono ?_; rintro e w' ⟨rfl, rfl⟩) | fail)
          go_cut [34] from 13 to 55 (fun s34 wx => s34 = .bool false ∧ wx = w)
          case first =>
            by_cases hx0 : x = 0
            · subst hx0
              go_wp2_with fail
              go_meet
              exact ⟨rfl, rfl⟩
            · have z2 : (0 : Int) < (x : Int) := by omega
              have z3 : ¬ (11143348224 : Int) < (u : Int) := by omega
              have z4 : (u : Int) ≤ 11143348224 := by omega
              go_wp2_with fail
              go_meet
              exact ⟨by first | rfl | simp, rfl⟩
          case rest =>
            obtain ⟨rfl, hwc⟩ := hcut
            rw [hwc]
            clear hwc hbig
            by_cases hgr : 11143348224 < acc + P
            · have HE : Hid (R = (0, 0)) := Lib.hid (by
                rw [← HR.out]
                refine numG_great hc ?_
                rw [HP.out]
                unfold most
                omega)
              have z2 : (11143348224 : Int) < (acc : Int) + (P : Int) := by omega
              clear hc HR
              go_wp2_with fail
              go_ret2
              exact readed_none HE.out
            · have z2 : ¬ (11143348224 : Int) < (acc : Int) + (P : Int) := by omega
              have z3 : (acc : Int) + (P : Int) ≤ 11143348224 := by omega
              have ht1 := thr_lo lead (j + 1)
              have ht2 := thr_hi lead (j + 1)
              have hcall := rThreshold_any (j + 1) lead w (by omega) hl
              have e1 : (((j + 1 : Nat) : Nat) : Int) = (j : Int) + 1 := by omega
              rw [e1] at hcall
              have HTH : Hid (Calls Try.prog 46 #[.int .i64 ((j : Int) + 1), .int .i64 (lead : Int)] w (Same1 (.int .i64 ((thr lead (j + 1) : Nat) : Int)) w)) := Lib.hid hcall
              obtain ⟨t, ht⟩ : ∃ t, thr lead (j + 1) = t := ⟨_, rfl⟩
              rw [ht] at HTH ht1 ht2
              have HT := Lib.hid ht
              clear hcall ht e1
              by_cases hxt : x < t
              · have HE : Hid (R = (acc + P, j + 1)) := Lib.hid (by
                  rw [← HR.out, numG_last hc (by rw [HT.out]; exact hxt), HP.out, if_pos (by unfold most; omega)])
                have z5 : (x : Int) < (t : Int) := by omega
                clear hc HR
                go_wp2_with (first | (go_at_call 46; refine HTH.out.mono ?_; rintro e w' ⟨rfl, rfl⟩) | fail)
                go_ret2
                exact readed_some (v := acc + P) HE.out (by rw [← Nat.add_assoc, HK.out]; omega)
              · have HE : Hid (numG lead (most + 1) (acc + P) (u * (36 - t)) (j + 1) (s.data.toList.drop (k + 1)) = R) := Lib.hid (by
                  rw [← HR.out, numG_more hc (by rw [HT.out]; exact hxt), HP.out, HT.out])
                have hx0 : 0 < x := by omega
                have hum := hcase.out hx0
                have z5 : ¬ (x : Int) < (t : Int) := by omega
                have z6 : (u : Int) ≤ 11143348224 := by omega
                obtain ⟨v, hv⟩ : ∃ v, 36 - t = v := ⟨_, rfl⟩
                have hvz : (36 : Int) - (t : Int) = (v : Int) := by omega
                rw [hv] at HE
                have hv35 : v ≤ 35 := by omega
                have hv1 : 1 ≤ v := by omega
                obtain ⟨U, hU⟩ : ∃ U, u * v = U := ⟨_, rfl⟩
                rw [hU] at HE
                have hUz : (u : Int) * (v : Int) = (U : Int) := by rw [← hU]; simp
                have hUb : U ≤ 11143348224 * 35 := by rw [← hU]; exact Nat.mul_le_mul hum hv35
                have hU1 : 1 ≤ U := by rw [← hU]; exact Nat.mul_le_mul hu1 hv1
                clear hc HR hv hU
                go_wp2_with (first | (go_at_call 46; refine HTH.out.mono ?_; rintro e w' ⟨rfl, rfl⟩) | fail)
                go_roundg g
                case measure => omega
                case rel => exact ⟨j + 1, acc + P, U, by rw [← Nat.add_assoc, HK.out]; go_num, by go_num, rfl, by go_num, by rw [← Nat.add_assoc, HK.out]; omega, by omega, hU1, by omega, by rw [← Nat.add_assoc, HK.out]; exact HE, rfl⟩
end Go.Proofs.Ytcdjjodiiaahfaa
