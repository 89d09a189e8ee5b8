/-
  The document's own answer of layer 4: Encode of scalars.
-/
import Derived.Test.YtcdjjodiiaahfaaPunyZA
namespace Go.Proofs.Ytcdjjodiiaahfaa
open Go.RowKit Go.Shelf Puny

theorem hB_take {L : List Nat} {i : Nat} (h : i ≤ L.length) : (Puny.basics (L.take i)).length ≤ i := by
  unfold Puny.basics
  exact Nat.le_trans (List.length_filter_le _ _) (by rw [List.length_take]; omega)

set_option maxRecDepth 100000 in
set_option maxHeartbeats 4000000 in
theorem rEncode_right (L : List Nat) (A : Option Addr) (n c : Nat) (w : World) (hn : L.length = n) (hn1 : n ≤ 900) (hs : ∀ x ∈ L, sca x = true) (hr : Row w w.heap.size A (cn L)) :
    Calls Try.prog 10 #[.slice A n c] w (REnc (encT L) 0 w) := by
  have HN := Lib.hid hn
  have HS := Lib.hid hs
  clear hn hs
  go_enter Try.func10, Try.ntmps10
  go_wp2
  go_loopg [4, 5, 6] n (fun g s4 s5 s6 wr => ∃ (i h : Nat) (T : List UInt8), s6 = .int .i64 (i : Int) ∧ s5 = .int .i64 (h : Int) ∧ s4 = .string (bs T) ∧ i + g = n ∧ h ≤ i ∧ T.length ≤ i ∧ Hid (T = (Puny.basics (L.take i)).map UInt8.ofNat) ∧ Hid (h = (Puny.basics (L.take i)).length) ∧ Below w.heap.size w wr)
  case atStart => exact ⟨0, 0, [], rfl, rfl, rfl, by omega, by omega, by simp, Lib.hid (by simp [Puny.basics]), Lib.hid (by simp [Puny.basics]), Below.refl _ _⟩
  case round =>
    obtain ⟨i, h, T, rfl, rfl, rfl, hig, hhi, hTi, HT, HH, hBw⟩ := hrel
    rcases gk with _ | g
    · obtain rfl : i = n := by omega
      have HTb : Hid (T = (Puny.basics L).map UInt8.ofNat) := Lib.hid (by rw [HT.out, List.take_of_length_le (by rw [HN.out]; omega)])
      have hHb : h = hB L := by rw [HH.out, List.take_of_length_le (by rw [HN.out]; omega)]
      have hHL : hB L ≤ i := by omega
      have HHb := Lib.hid hHb
      clear HT HH hTi hHb
      go_upto_if 48 with fail
      go_cut [4] from 47 (fun s4 wx => s4 = .string (bs (hd L)) ∧ Below w.heap.size w wx)
      case first =>
        by_cases hb : Puny.basics L = []
        · obtain rfl : h = 0 := by rw [HHb.out]; unfold hB; rw [hb]; rfl
          have HH : Hid (bs T = bs (hd L)) := Lib.hid (by rw [HTb.out, hb, hd_nil hb]; rfl)
          clear hb
          go_wp2_with fail
          go_meet
          exact ⟨by rw [HH.out], hBw⟩
        · have hb0 : 0 < h := by rw [HHb.out]; exact List.length_pos_iff.2 hb
          have hz : (0 : Int) < (h : Int) := by omega
          have hsz : (bs T).size ≤ 1000 := by rw [bs_size, HTb.out, List.length_map]; unfold hB at hHL; omega
          have HH : Hid (bs T ++ bs [45] = bs (hd L)) := Lib.hid (by rw [bs_app, hd_cons hb, HTb.out])
          clear hb
          go_wp2_with fail
          go_meet
          exact ⟨congrArg Value.string HH.out, hBw⟩
      case rest =>
        clear hBw HTb
        obtain ⟨rfl, hBw⟩ := hcut
        have hr1 := hr.go hBw
        go_upto_region 15 with fail
        go_cut [11, 12, 13] from 51 (fun s11 s12 s13 wx => ∃ o : Option (Nat × Nat), s11 = .int .i32 (bestV o).1 ∧ s12 = .int .i64 (bestV o).2 ∧ s13 = .bool o.isSome ∧ Hid (Nxt L 0 o) ∧ Below w.heap.size w wx)
        case first =>
          go_wp2_with fail
          refine (rLeast_any L A _ _ 128 0 (-1) _ HN.out (by omega) (past_zero L) hr1).mono ?_
          rintro e w2 ⟨o, ho, rfl, rfl⟩
          have HO := Lib.hid ho
          clear ho
          cases o with
          | none =>
            simp only [leastV]
            go_wp2
            go_meet
            exact ⟨none, rfl, rfl, rfl, HO, hBw⟩
          | some x =>
            simp only [leastV]
            go_wp2
            go_meet
            exact ⟨some x, rfl, rfl, rfl, HO, hBw⟩
        case rest =>
          clear hBw hr1
          obtain ⟨o, rfl, rfl, rfl, HO, hBw⟩ := hcut
          have hel := evi_len HS.out
          rw [HN.out] at hel
          obtain ⟨E, hE⟩ : ∃ E, (evi L).length = E := ⟨_, rfl⟩
          rw [hE] at hel
          have HE := Lib.hid hE
          clear hE
          go_wp2
          go_loopg [4, 5, 7, 8, 9, 10, 11, 12, 13] E (fun g s4 s5 s7 s8 s9 s10 s11 s12 s13 wr => ∃ j, j + g = E ∧ EncS L w j s4 s5 s7 s8 s9 s10 s11 s12 s13 wr)
          case atStart => exact ⟨0, by omega, o, 128, 0, 72, hd L, rfl, by rw [HHb.out]; rfl, rfl, rfl, rfl, rfl, rfl, rfl, rfl, Lib.hid (nI_zero L), Lib.hid (by rw [bT_zero]), Lib.hid (tT_zero L), HO, hBw⟩
          case round =>
            clear hBw HO
            clear o
            obtain ⟨j, hjg, o, nn, ii, lead, T, rfl, rfl, rfl, rfl, rfl, rfl, rfl, rfl, rfl, HNI, HLE, HTT, HO, hBw⟩ := hrel
            cases o with
            | none =>
              have HR : Hid (T = encT L) := Lib.hid (by rw [← HTT.out]; exact tT_end HO.out)
              simp only [Option.isSome]
              go_wp2
              go_ret2
              exact ⟨by rw [HR.out]; rfl, hBw⟩
            | some x =>
              obtain ⟨m, k⟩ := x
              obtain ⟨hjl, _, hx1, hx2, hx3⟩ := evi_at HO.out
              have hj1 : j < E := by rw [← HE.out]; exact hjl
              obtain ⟨q1, q2, q3⟩ := nI_ok HO.out
              have q4 := dN_lt HS.out HO.out
              have hDdef : dN L j (m, k) = (m - (nI L j).1) * (hB L + j + 1) + pat L m k - (nI L j).2 := rfl
              have q5 := bT_lead HS.out (j := j) (by rw [HE.out]; omega) (by omega)
              have q6 := tT_len HS.out (j := j) (by rw [HE.out]; omega) (by omega)
              have q7 := pat_le L m k
              have hmle : m ≤ 1114111 := by
                have h1 := HS.out m (List.mem_of_getElem? hx1)
                unfold sca at h1; simp at h1; exact h1.1
              have HSX := Lib.hid (take_evs HO.out)
              have HBS := Lib.hid (bT_succ HO.out)
              have HTS := Lib.hid (tT_succ HO.out)
              have HNS := Lib.hid (nI_succ HO.out)
              have HPS := Lib.hid (past_succ HO.out)
              have HBP := Lib.hid (bT_part (L := L) (j := j) (by rw [HE.out]; omega))
              rw [HNI.out] at q1 q2 q3 hDdef
              rw [HLE.out] at q5
              rw [HTT.out] at q6
              simp only at q1 q2 q3 hDdef
              rw [HN.out] at q7 hx3
              simp only at hx3
              obtain ⟨H, hH⟩ : ∃ H, hB L + j = H := ⟨_, rfl⟩
              rw [hH] at q2 q3 q4 hDdef ⊢
              have hHn : H ≤ 900 := by omega
              obtain ⟨p, hp⟩ : ∃ p, pat L m k = p := ⟨_, rfl⟩
              rw [hp] at q3 hDdef q7
              obtain ⟨M, hM⟩ : ∃ M, m - nn = M := ⟨_, rfl⟩
              rw [hM] at q3 hDdef
              obtain ⟨K, hK⟩ : ∃ K, M * (H + 1) = K := ⟨_, rfl⟩
              rw [hK] at q3 hDdef
              obtain ⟨D, hD⟩ : ∃ D, dN L j (m, k) = D := ⟨_, rfl⟩
              rw [hD] at hDdef q4
              have q8 : D ≤ 3000000000 := by
                have : many * (H + 1) ≤ many * 1001 := Nat.mul_le_mul_left _ (by omega)
                unfold many at *
                omega
              have q9 : K ≤ 3000000000 := by
                have : M * (H + 1) ≤ 1114111 * 1001 := Nat.mul_le_mul (by omega) (by omega)
                omega
              have hmz : (m : Int) - (nn : Int) = (M : Int) := by omega
              have hprod : (M : Int) * ((H : Int) + 1) = (K : Int) := by rw [← hK]; simp
              have hdz : (K : Int) + (p : Int) - (ii : Int) = (D : Int) := by omega
              have HP := Lib.hid hp
              have HDD := Lib.hid hD
              have HHH := Lib.hid hH
              have hsz : (bs T).size ≤ 20000 := by rw [bs_size]; exact q6
              clear q4 hDdef hp hD hM hK hH q3 hel
              have hr1 := hr.go hBw
              simp only [Option.isSome, bestV]
              go_upto_region 17 with fail
              go_cut [14] from 57 to 94 (fun s14 wx => s14 = .int .i64 (p : Int) ∧ wx = wr)
              case first =>
                go_wp2_with fail
                refine (rAhead_any L A _ _ m k wr HN.out (by omega) (by omega) hr1).mono ?_
                rintro e w2 ⟨rfl, rfl⟩
                rw [HP.out]
                go_wp2
                go_meet
                exact ⟨rfl, rfl⟩
              case rest =>
                obtain ⟨rfl, hwc⟩ := hcut
                rw [hwc]
                clear hwc
                go_upto_region 18 with fail
                go_cut [15] from 57 to 94 (fun s15 wx => s15 = .int .i64 (D : Int) ∧ wx = wr)
                case first =>
                  have w1' : IntKind.i32.wrap (M : Int) = (M : Int) := by simp [IntKind.wrap, IntKind.bits, IntKind.signed]; omega
                  have w2' : IntKind.i64.wrap (K : Int) = (K : Int) := IntWalk.i64_in _ (by omega)
                  have w3' : IntKind.i64.wrap (D : Int) = (D : Int) := IntWalk.i64_in _ (by omega)
                  go_wp2_with fail
                  go_meet
                  exact ⟨by first | rfl | go_num, rfl⟩
                case rest =>
                  obtain ⟨rfl, hwc⟩ := hcut
                  rw [hwc]
                  clear hwc hdz hprod hmz
                  have HCS := Lib.hid (rStep_any D lead wr q8 (by omega))
                  have hap : (D : Int) = (D : Int) := rfl
                  clear hap
                  go_wp2_with fail
                  refine HCS.out.mono ?_
                  rintro e w3 ⟨rfl, hB3⟩
                  obtain ⟨R, hR⟩ : ∃ R, (digs lead 1 D).map sign = R := ⟨_, rfl⟩
                  have HTS2 : Hid (tT L (j + 1) = T ++ R) := Lib.hid (by rw [HTS.out, HTT.out, HLE.out, HDD.out, hR])
                  have q10 := tT_len HS.out (j := j + 1) (by rw [HE.out]; omega) (by rw [← Nat.add_assoc, HHH.out]; omega)
                  rw [HTS2.out, List.length_append] at q10
                  rw [hR]
                  have hsz2 : (bs R).size ≤ 20000 := by rw [bs_size]; omega
                  have hsz3 : (bs T).size + (bs R).size ≤ 20000 := by rw [bs_size, bs_size]; omega
                  have hBw3 := upB hBw hB3
                  have hr3 := hr.go hBw3
                  have HBB : Hid (bs T ++ bs R = bs (T ++ R)) := Lib.hid (bs_app _ _)
                  clear hR hB3 hBw hr1
                  have hcn := rNext_any D (H + 1) (decide (j = 0)) w3 (by omega) (by omega) (by omega)
                  have hbz : next D (if decide (j = 0) then 700 else 2) (H + 1) = (bT L (j + 1)).1 := by rw [HBS.out, HDD.out, HBP.out, HHH.out]
                  rw [hbz] at hcn
                  have e1 : (((H + 1 : Nat) : Nat) : Int) = (H : Int) + 1 := by omega
                  rw [e1] at hcn
                  have HCN := Lib.hid hcn
                  clear hcn hbz e1
                  go_wp2_with fail
                  refine HCN.out.mono ?_
                  rintro e w4 ⟨rfl, rfl⟩
                  go_wp2_with fail
                  refine (rLeast_any L A _ _ m (j + 1) (k : Int) _ HN.out (by omega) HPS.out hr3).mono ?_
                  rintro e w5 ⟨o, ho, rfl, rfl⟩
                  have HO2 := Lib.hid ho
                  clear ho
                  cases o with
                  | none =>
                    simp only [leastV]
                    go_wp2_with fail
                    go_roundg (E - (j + 1))
                    case measure => omega
                    case rel => exact ⟨j + 1, by omega, none, m, p + 1, (bT L (j + 1)).1, T ++ R, congrArg Value.string HBB.out, by rw [← Nat.add_assoc, HHH.out]; go_num, rfl, by go_num, rfl, by simp, rfl, rfl, rfl, Lib.hid (by rw [HNS.out, HP.out]), Lib.hid rfl, HTS2, HO2, hBw3⟩
                  | some y =>
                    simp only [leastV]
                    go_wp2_with fail
                    go_roundg (E - (j + 1))
                    case measure => omega
                    case rel => exact ⟨j + 1, by omega, some y, m, p + 1, (bT L (j + 1)).1, T ++ R, congrArg Value.string HBB.out, by rw [← Nat.add_assoc, HHH.out]; go_num, rfl, by go_num, rfl, by simp, rfl, rfl, rfl, Lib.hid (by rw [HNS.out, HP.out]), Lib.hid rfl, HTS2, HO2, hBw3⟩
    · have hin : i < L.length := by rw [HN.out]; omega
      have hizn : (i : Int) < (n : Int) := by omega
      obtain ⟨bb, off, rfl, hbb, hc⟩ := (hr.below hBw).at_ (by simp; omega)
      have hcell := hc i (by simp; omega)
      rw [cn_get _ _ hin] at hcell
      have HBT := Lib.hid (basics_take hin)
      have hsc := HS.out L[i] (List.getElem_mem hin)
      obtain ⟨r, hx⟩ : ∃ r, L[i] = r := ⟨_, rfl⟩
      rw [hx] at hcell HBT hsc
      have HC := Lib.hid hc
      have hisc : isSca (r : Int) = true := by unfold sca at hsc; unfold isSca; simp at hsc ⊢; omega
      have hr11 : r ≤ 1114111 := by unfold sca at hsc; simp at hsc; exact hsc.1
      have hcall := rScalar_any (r : Int) wr
      rw [hisc] at hcall
      have HCA := Lib.hid hcall
      have hsz : (bs T).size ≤ 1000 := by rw [bs_size]; omega
      clear hc hx hcall hisc hsc
      by_cases h128 : r < 128
      · have hz : (r : Int) < 128 := by omega
        have hcv := conv_byte (r : Int) wr
        have hs1 := strOf1_size (r : Int)
        have wu : IntKind.u8.wrap (r : Int) = (r : Int) := by simp [IntKind.wrap, IntKind.bits, IntKind.signed]; omega
        have HSB : Hid (strOfNums [(r : Int)] = bs [UInt8.ofNat r]) := Lib.hid (bs_eq (by rw [byte_data]; rfl))
        go_wp2_with (first | (go_at_call 25; refine HCA.out.mono ?_; rintro e w' ⟨rfl, rfl⟩) | fail)
        go_roundg g
        case measure => omega
        case rel => exact ⟨i + 1, h + 1, T ++ [UInt8.ofNat r], by go_num, by go_num, by rw [HSB.out, bs_app], by omega, by omega, by rw [List.length_append, List.length_singleton]; omega, Lib.hid (by rw [HBT.out, if_pos h128, List.map_append, ← HT.out]; rfl), Lib.hid (by rw [HBT.out, if_pos h128, List.length_append, List.length_singleton, ← HH.out]), hBw.alloc hBw.size _⟩
      · have hz : ¬ (r : Int) < 128 := by omega
        have hy : (128 : Int) ≤ (r : Int) := by omega
        go_wp2_with (first | (go_at_call 25; refine HCA.out.mono ?_; rintro e w' ⟨rfl, rfl⟩) | fail)
        go_roundg g
        case measure => omega
        case rel => exact ⟨i + 1, h, T, by go_num, rfl, rfl, by omega, by omega, by omega, Lib.hid (by rw [HBT.out, if_neg h128, List.append_nil]; exact HT.out), Lib.hid (by rw [HBT.out, if_neg h128, List.append_nil]; exact HH.out), hBw⟩
end Go.Proofs.Ytcdjjodiiaahfaa
