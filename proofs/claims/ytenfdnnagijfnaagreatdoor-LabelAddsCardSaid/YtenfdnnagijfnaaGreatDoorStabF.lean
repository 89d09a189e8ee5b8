/-
  The library's stable sort at []classed: symMerge by halves.
-/
import Derived.Test.YtenfdnnagijfnaaGreatDoorStabE
import Derived.Deep.CutRange
namespace Go.Proofs.YtenfdnnagijfnaaGreatDoor
open Go.RowKit Norm Go.Shelf Go.Sort Go.Lib

def SmOk (w0 : World) (blk off cap N k : Nat) : Prop := ∀ (P X Y S : List C) (a m b : Nat), X.length + Y.length < k → a = P.length → m = P.length + X.length → b = P.length + X.length + Y.length → 0 < X.length → 0 < Y.length → Srt X → Srt Y → (P ++ X ++ Y ++ S).length = N → ∀ W, SWL w0 blk off (P ++ X ++ Y ++ S) W →
  Calls Tryz.prog 128 #[.slice (some ⟨blk, off, none⟩) N cap, .int .i64 a, .int .i64 m, .int .i64 b, .func (.func 91) #[] #[]] W (SwOk w0 blk off (P ++ isort (X ++ Y) ++ S))

set_option maxRecDepth 100000 in
set_option maxHeartbeats 8000000 in
theorem sm_rec (w0 : World) (blk off cap N : Nat) (l0 : List C) (R : RowC w0 blk off l0) (P X Y S : List C) (a m b n1 n2 : Nat) (ha : a = P.length) (hn1 : X.length = n1) (hn2 : Y.length = n2) (h1 : 1 < n1) (h2 : 1 < n2) (hm : m = a + n1) (hb : b = m + n2) (hX : Srt X) (hY : Srt Y)
    (hN : N = l0.length) (hl : (P ++ X ++ Y ++ S).length = N) (h6 : N ≤ 1000000) (IH : SmOk w0 blk off cap N (n1 + n2)) (W : World) (hS : SWL w0 blk off (P ++ X ++ Y ++ S) W) :
    Calls Tryz.prog 128 #[.slice (some ⟨blk, off, none⟩) N cap, .int .i64 a, .int .i64 m, .int .i64 b, .func (.func 91) #[] #[]] W (SwOk w0 blk off (P ++ isort (X ++ Y) ++ S)) := by
  have mixed : Tryz.prog.follows .mixedOrders = true := by kernel_rfl
  have HS0 := Lib.hid hS
  obtain ⟨F, hF⟩ : ∃ F, P ++ isort (X ++ Y) ++ S = F := ⟨_, rfl⟩
  have HF := Lib.hid hF
  rw [hF]
  clear hF
  have hln : a + n1 + n2 + S.length = N := by simp at hl; omega
  obtain ⟨L, hLE⟩ : ∃ L, P ++ X ++ Y ++ S = L := ⟨_, rfl⟩
  have HLE := Lib.hid hLE
  rw [hLE] at HS0 hl
  have HL := Lib.hid hl
  have HNN := Lib.hid hN
  have HP := Lib.hid ha
  have HXL := Lib.hid hn1
  have HYL := Lib.hid hn2
  have HIH := Lib.hid IH
  have HGX : Hid (∀ i, i < n1 → L.toArray[a + i]! = X[i]!) := Lib.hid (fun i hi => by rw [← HLE.out, ha]; exact at_X (by omega))
  have HGY : Hid (∀ i, i < n2 → L.toArray[m + i]! = Y[i]!) := Lib.hid (fun i hi => by rw [← HLE.out, hm, ha, ← hn1]; exact at_Y (by omega))
  have e1 : (m : Int) - (a : Int) = (n1 : Int) := by omega
  have n1b : ((n1 : Int) == 1) = false := by simp; omega
  have n1p : ¬ (n1 : Int) = 1 := by omega
  have e2 : (b : Int) - (m : Int) = (n2 : Int) := by omega
  have n2b : ((n2 : Int) == 1) = false := by simp; omega
  have n2p : ¬ (n2 : Int) = 1 := by omega
  have HM := Lib.hid hm
  have HB := Lib.hid hb
  have hmN : m < N := by omega
  have haN : a < N := by omega
  have hbN : b ≤ N := by omega
  obtain ⟨mid, hmid⟩ : ∃ mid, mid = (a + b) / 2 := ⟨_, rfl⟩
  have hcast : ((a : Int) + (b : Int)) / 2 = (mid : Int) := by omega
  have hma : a < mid := by omega
  have hmb : mid < b := by omega
  obtain ⟨n, hn⟩ : ∃ n, n = mid + m := ⟨_, rfl⟩
  obtain ⟨p, hp⟩ : ∃ p, n = p + 1 := ⟨n - 1, by omega⟩
  have HMID := Lib.hid hmid
  have HNM := Lib.hid hn
  have HPP := Lib.hid hp
  obtain ⟨s0, r0, hsr⟩ : ∃ s0 r0 : Nat, (mid < m ∧ s0 + b = n ∧ r0 = mid) ∨ (m ≤ mid ∧ s0 = a ∧ r0 = m) := by
    by_cases h : mid < m
    · exact ⟨n - b, mid, .inl ⟨h, by omega, rfl⟩⟩
    · exact ⟨a, m, .inr ⟨by omega, rfl, rfl⟩⟩
  have HSR := Lib.hid hsr
  have hs0 : s0 ≤ r0 := by omega
  have hr0 : r0 ≤ N := by omega
  clear hS hl hN ha hm hb hn1 hn2 IH hmid hLE
  go_enter Tryz.func128, Tryz.ntmps128
  go_upto_region 24 with fail
  go_cut [18] from 129 to 134 (fun s18 wx => s18 = .int .i64 (mid : Int) ∧ wx = W)
  case first =>
    clear hn hp hsr
    go_wp2_with fail
    go_meet
    exact ⟨by first | rfl | go_num, rfl⟩
  case rest =>
    obtain ⟨rfl, hwc⟩ := hcut
    rw [hwc]
    clear hwc hcast e1 e2 n1b n1p n2b n2p
    have en : (mid : Int) + (m : Int) = (n : Int) := by omega
    have ep : (n : Int) - 1 = (p : Int) := by omega
    clear hn hp
    go_upto_if 140 with fail
    go_cut [20, 21] from 138 to 146 (fun s20 s21 wx => s20 = .int .i64 (s0 : Int) ∧ s21 = .int .i64 (r0 : Int) ∧ wx = W)
    case first =>
      rcases hsr with ⟨q1, q2, q3⟩ | ⟨q1, q2, q3⟩
      · have z : (mid : Int) < (m : Int) := by omega
        have es : (n : Int) - (b : Int) = (s0 : Int) := by omega
        have Q3 := Lib.hid q3
        clear q2 q3
        go_wp2_with fail
        go_meet
        exact ⟨rfl, by rw [Q3.out], rfl⟩
      · have z : ¬ (mid : Int) < (m : Int) := by omega
        have Q2 := Lib.hid q2
        have Q3 := Lib.hid q3
        clear q2 q3
        go_wp2_with fail
        go_meet
        exact ⟨by rw [Q2.out], by rw [Q3.out], rfl⟩
    case rest =>
      obtain ⟨rfl, rfl, hwc⟩ := hcut
      rw [hwc]
      clear hwc hsr
      go_wp2_with fail
      clear en ep
      go_loopg [20, 21] (r0 - s0) (fun k s20 s21 wr => ∃ i j : Nat, s20 = .int .i64 (i : Int) ∧ s21 = .int .i64 (j : Int) ∧ k = j - i ∧ s0 ≤ i ∧ i ≤ j ∧ j ≤ r0 ∧ Hid (s0 < i → L.toArray[i - 1]!.2 ≤ L.toArray[p - (i - 1)]!.2) ∧ Hid (j < r0 → L.toArray[p - j]!.2 < L.toArray[j]!.2) ∧ Hid (SWL w0 blk off L wr))
      case atStart => exact ⟨s0, r0, rfl, rfl, rfl, Nat.le_refl _, hs0, Nat.le_refl _, Lib.hid (fun h => absurd h (by omega)), Lib.hid (fun h => absurd h (by omega)), HS0⟩
      case round =>
        obtain ⟨i, j, rfl, rfl, rfl, hi, hij, hj, H1, H2, HS⟩ := hrel
        clear HS0
        by_cases hlt : i < j
        · have hltz : (i : Int) < (j : Int) := by omega
          obtain ⟨c, hc⟩ : ∃ c, c = (i + j) / 2 := ⟨_, rfl⟩
          have hci : i ≤ c := by omega
          have hcj : c < j := by omega
          have hcast : ((i : Int) + (j : Int)) / 2 = (c : Int) := by omega
          have hcN : c < N := by omega
          have sN : i + j ≤ 2000000 := by omega
          obtain ⟨d, hd⟩ : ∃ d, d = p - c := ⟨_, rfl⟩
          have hdd : (p : Int) - (c : Int) = (d : Int) ∧ d < N := by
            have g1 := HSR.out
            have g2 := HNM.out
            have g3 := HPP.out
            have g4 := HM.out
            have g5 := HB.out
            have g6 := HMID.out
            omega
          clear hc
          go_upto_region 34 with fail
          go_cut [23] from 149 to 174 (fun s23 wx => s23 = .int .i64 (c : Int) ∧ wx = wr)
          case first =>
            clear hdd hd
            go_wp2_with fail
            go_meet
            exact ⟨by first | rfl | go_num, rfl⟩
          case rest =>
            obtain ⟨rfl, hwc⟩ := hcut
            rw [hwc]
            clear hwc hcast
            obtain ⟨hpc, hdN⟩ := hdd
            have hlen : L.length = l0.length := HL.out.trans HNN.out
            obtain ⟨x, hx⟩ : ∃ x, L.toArray[d]! = x := ⟨_, rfl⟩
            obtain ⟨y, hy⟩ : ∃ y, L.toArray[c]! = y := ⟨_, rfl⟩
            obtain ⟨c0, c1⟩ := SWL.cells_g HS.out R hlen (i := d) (by rw [HL.out]; omega) hx
            obtain ⟨d0, d1⟩ := SWL.cells_g HS.out R hlen (i := c) (by rw [HL.out]; omega) hy
            have hcc := cmp_call x y wr
            have HX2 := Lib.hid hx
            have HY2 := Lib.hid hy
            have HD := Lib.hid hd
            have hdz : (d : Int) < (N : Int) := by omega
            have hdw : IntKind.i64.wrap (d : Int) = (d : Int) := by rw [IntKind.wrap_i64]; omega
            have hd0 : (0 : Int) ≤ (d : Int) := by omega
            have hcz : (c : Int) < (N : Int) := by omega
            have HS2 : Hid (∀ n os, SWL w0 blk off L (grow (wr.drewN n) os)) := Lib.hid (fun n os => HS.out.grown n os)
            clear hx hy hlen HS hd
            by_cases hlt2 : x.2 < y.2
            · have hz := cmpZ_lt.2 hlt2
              have hzb : decide (cmpZ x.2 y.2 < 0) = true := decide_eq_true hz
              go_wp2_with fail
              go_quiet_grown (first | (go_at_call 91; exact hcc _ _))
              go_wp2_with fail
              go_roundg (c - i)
              case measure => omega
              case rel => exact ⟨i, c, rfl, rfl, rfl, hi, by omega, by omega, H1, Lib.hid (fun _ => by rw [← HD.out, HX2.out, HY2.out]; exact hlt2), Lib.hid (HS2.out _ _)⟩
            · have hz : ¬ cmpZ x.2 y.2 < 0 := fun h => hlt2 (cmpZ_lt.1 h)
              have hzb : decide (cmpZ x.2 y.2 < 0) = false := decide_eq_false hz
              have hzc : 0 ≤ cmpZ x.2 y.2 := by omega
              go_wp2_with fail
              go_quiet_grown (first | (go_at_call 91; exact hcc _ _))
              go_wp2_with fail
              go_roundg (j - (c + 1))
              case measure => omega
              case rel => exact ⟨c + 1, j, by go_num, rfl, rfl, by omega, by omega, hj, Lib.hid (fun _ => by rw [Nat.add_sub_cancel, ← HD.out, HX2.out, HY2.out]; omega), H2, Lib.hid (HS2.out _ _)⟩
        · obtain rfl : i = j := by omega
          have hltz : ¬ ((i : Nat) : Int) < (i : Int) := by omega
          have xL := HXL.out
          have yL := HYL.out
          obtain ⟨t, ht⟩ : ∃ t, t = n - i := ⟨_, rfl⟩
          obtain ⟨k, hk⟩ : ∃ k, k = i - a := ⟨_, rfl⟩
          obtain ⟨e, he⟩ : ∃ e, e = t - m := ⟨_, rfl⟩
          have hbig : a ≤ i ∧ i ≤ m ∧ m ≤ t ∧ t ≤ b ∧ mid = i + e ∧ i = a + k ∧ t = m + e ∧ i + t = n ∧ k ≤ n1 ∧ e ≤ n2 ∧ t = mid + (m - i) ∧ (i < r0 ∨ k = n1 ∨ e = 0) ∧ (s0 < i ∨ k = 0 ∨ e = n2) ∧ (0 < e → p - i = m + (e - 1)) ∧ (0 < k → p - (i - 1) = m + e) := by
            have g1 := HSR.out
            have g2 := HNM.out
            have g3 := HPP.out
            have g4 := HM.out
            have g5 := HB.out
            have g6 := HMID.out
            omega
          obtain ⟨b1, b2, b3, b4, b5, b6, b7, b8, b9, b10, b11, b12, b13, b14, b15⟩ := hbig
          have HMG : Hid (isort (X ++ Y) = isort (X.take k ++ Y.take e) ++ isort (X.drop k ++ Y.drop e)) := Lib.hid (by
            refine merge_at hX hY ?_ ?_ (by omega) (by omega)
            · intro q1 q2 q3
              have := H2.out (by omega)
              rw [b14 q2, HGY.out (e - 1) (by omega), b6, HGX.out k (by omega)] at this
              exact this
            · intro q1 q2 q3
              have := H1.out (by omega)
              rw [b15 q1, HGY.out e (by omega), show i - 1 = a + (k - 1) from by omega, HGX.out (k - 1) (by omega)] at this
              exact this)
          have hlL := HL.out
          have hPa := HP.out
          have hLE := HLE.out
          rw [← List.take_append_drop k X, ← List.take_append_drop e Y] at hLE
          have HFE : Hid (P ++ (isort (X.take k ++ Y.take e) ++ isort (X.drop k ++ Y.drop e)) ++ S = F) := Lib.hid (by rw [← HMG.out]; exact HF.out)
          have l1 : (X.take k).length = k := by rw [List.length_take]; omega
          have l2 : (X.drop k).length = n1 - k := by rw [List.length_drop]; omega
          have l3 : (Y.take e).length = e := by rw [List.length_take]; omega
          have l4 : (Y.drop e).length = n2 - e := by rw [List.length_drop]; omega
          have s1 := srt_take hX k
          have s2 := srt_drop hX k
          have s3 := srt_take hY e
          have s4 := srt_drop hY e
          generalize X.take k = X1 at hLE HFE l1 s1
          generalize X.drop k = X2 at hLE HFE l2 s2
          generalize Y.take e = Y1 at hLE HFE l3 s3
          generalize Y.drop e = Y2 at hLE HFE l4 s4
          have hls : P.length + k + (n1 - k) + e + (n2 - e) + S.length = N := by
            have h := congrArg List.length hLE
            simp only [List.length_append] at h
            omega
          have HSP : Hid (SWL w0 blk off (P ++ X1 ++ X2 ++ Y1 ++ (Y2 ++ S)) wr) := Lib.hid (by
            have := HS.out
            rw [← hLE] at this
            simpa only [List.append_assoc] using this)
          have en : (n : Int) - (i : Int) = (t : Int) := by omega
          have HQ : Hid (mid = i + e ∧ i = a + k ∧ t = m + e ∧ t = mid + (m - i) ∧ m = a + n1 ∧ b = m + n2) := Lib.hid ⟨b5, b6, b7, b11, HM.out, HB.out⟩
          have HL2 := Lib.hid l2
          have HL1 := Lib.hid l1
          have HL3 := Lib.hid l3
          have HL4 := Lib.hid l4
          clear b5 b6 b7 b11 hlt H1 H2 HS HMG hLE HGX HGY HLE HSR HMID HPP b12 b13 b14 b15 ht hk he b8 l1 l2 l3 l4 hs0 hr0 hi hj hij hPa hlL xL yL
          go_upto_region 39 with fail
          clear en
          obtain ⟨c1, hc1⟩ : ∃ c1 : Bool, c1 = decide (i < m ∧ m < t) := ⟨_, rfl⟩
          go_cut [185] from 178 to 184 (fun s185 wx => s185 = .bool c1 ∧ wx = wr)
          case first =>
            by_cases z1 : i < m
            · have z1z : (i : Int) < (m : Int) := by omega
              by_cases z2 : m < t
              · have z2z : (m : Int) < (t : Int) := by omega
                obtain rfl : c1 = true := by rw [hc1]; exact decide_eq_true ⟨z1, z2⟩
                clear hc1
                go_wp2_with fail
                go_meet
                exact ⟨rfl, rfl⟩
              · have z2z : ¬ (m : Int) < (t : Int) := by omega
                obtain rfl : c1 = false := by rw [hc1]; exact decide_eq_false (fun h => z2 h.2)
                clear hc1
                go_wp2_with fail
                go_meet
                exact ⟨by first | rfl | (simp; omega), rfl⟩
            · have z1z : ¬ (i : Int) < (m : Int) := by omega
              obtain rfl : c1 = false := by rw [hc1]; exact decide_eq_false (fun h => z1 h.1)
              clear hc1
              go_wp2_with fail
              go_meet
              exact ⟨by first | rfl | (simp; omega), rfl⟩
          case rest =>
            obtain ⟨rfl, hwc⟩ := hcut
            rw [hwc]
            clear hwc
            go_upto_if 185 with fail
            go_cut [20] from 186 to 191 (fun s20 wx => s20 = .int .i64 (i : Int) ∧ Hid (SWL w0 blk off (P ++ X1 ++ Y1 ++ X2 ++ (Y2 ++ S)) wx))
            case first =>
              by_cases hc : i < m ∧ m < t
              · obtain rfl : c1 = true := by rw [hc1]; exact decide_eq_true hc
                have HR : Hid (Calls Tryz.prog 138 #[.slice (some ⟨blk, off, none⟩) N cap, .int .i64 i, .int .i64 m, .int .i64 t, .func (.func 91) #[] #[]] wr (SwOk w0 blk off (P ++ X1 ++ Y1 ++ X2 ++ (Y2 ++ S)))) := by
                  have q := HQ.out
                  have p0 := HP.out
                  have y1 := HL1.out
                  have y2 := HL2.out
                  have y3 := HL3.out
                  have y4 := HL4.out
                  exact Lib.hid (rotate_any w0 blk off cap N l0 R (P ++ X1) X2 Y1 (Y2 ++ S) i m t (by rw [List.length_append]; omega) (by rw [List.length_append]; omega) (by rw [List.length_append]; omega) (by omega) (by omega) HNN.out (by simp only [List.length_append]; omega) h6 wr HSP.out)
                clear hc1 hc hls
                go_wp2_with (first | (go_at_call 138; refine HR.out.mono ?_; rintro e w2 ⟨rfl, hS2⟩) | fail)
                go_meet
                exact ⟨rfl, Lib.hid hS2⟩
              · obtain rfl : c1 = false := by rw [hc1]; exact decide_eq_false hc
                have HR : Hid (SWL w0 blk off (P ++ X1 ++ Y1 ++ X2 ++ (Y2 ++ S)) wr) := by
                  have q := HQ.out
                  have y2 := HL2.out
                  have y3 := HL3.out
                  have hsp := HSP.out
                  rcases Nat.eq_zero_or_pos X2.length with h | h
                  · rw [List.eq_nil_of_length_eq_zero h] at hsp ⊢
                    exact Lib.hid (by simpa only [List.append_nil] using hsp)
                  · have h3 : Y1.length = 0 := by omega
                    rw [List.eq_nil_of_length_eq_zero h3] at hsp ⊢
                    exact Lib.hid (by simpa only [List.append_nil] using hsp)
                clear hc1 hc hls
                go_wp2_with fail
                go_meet
                exact ⟨rfl, HR⟩
            case rest =>
              obtain ⟨rfl, HS3⟩ := hcut
              generalize wc = w3 at HS3 ⊢
              clear HSP hc1
              go_upto_region 41 with fail
              obtain ⟨c2, hc2⟩ : ∃ c : Bool, c = decide (a < i ∧ i < mid) := ⟨_, rfl⟩
              go_cut [199] from 192 to 198 (fun s199 wx => s199 = .bool c2 ∧ wx = w3)
              case first =>
                by_cases z1 : a < i
                · have z1z : (a : Int) < (i : Int) := by omega
                  by_cases z2 : i < mid
                  · have z2z : (i : Int) < (mid : Int) := by omega
                    obtain rfl : c2 = true := by rw [hc2]; exact decide_eq_true ⟨z1, z2⟩
                    clear hc2
                    go_wp2_with fail
                    go_meet
                    exact ⟨rfl, rfl⟩
                  · have z2z : ¬ (i : Int) < (mid : Int) := by omega
                    obtain rfl : c2 = false := by rw [hc2]; exact decide_eq_false (fun h => z2 h.2)
                    clear hc2
                    go_wp2_with fail
                    go_meet
                    exact ⟨by first | rfl | (simp; omega), rfl⟩
                · have z1z : ¬ (a : Int) < (i : Int) := by omega
                  obtain rfl : c2 = false := by rw [hc2]; exact decide_eq_false (fun h => z1 h.1)
                  clear hc2
                  go_wp2_with fail
                  go_meet
                  exact ⟨by first | rfl | (simp; omega), rfl⟩
              case rest =>
                obtain ⟨rfl, hwc⟩ := hcut
                rw [hwc]
                clear hwc
                go_upto_if 199 with fail
                go_cut [20] from 200 to 205 (fun s20 wx => s20 = .int .i64 (i : Int) ∧ Hid (SWL w0 blk off (P ++ isort (X1 ++ Y1) ++ X2 ++ Y2 ++ S) wx))
                case first =>
                  by_cases hc : a < i ∧ i < mid
                  · obtain rfl : c2 = true := by rw [hc2]; exact decide_eq_true hc
                    have HR : Hid (Calls Tryz.prog 128 #[.slice (some ⟨blk, off, none⟩) N cap, .int .i64 a, .int .i64 i, .int .i64 mid, .func (.func 91) #[] #[]] w3 (SwOk w0 blk off (P ++ isort (X1 ++ Y1) ++ (X2 ++ (Y2 ++ S))))) := by
                      have q := HQ.out
                      have p0 := HP.out
                      have y1 := HL1.out
                      have y2 := HL2.out
                      have y3 := HL3.out
                      have y4 := HL4.out
                      exact Lib.hid (HIH.out P X1 Y1 (X2 ++ (Y2 ++ S)) a i mid (by omega) (by omega) (by omega) (by omega) (by omega) (by omega) s1 s3 (by simp only [List.length_append]; omega) w3 (by have := HS3.out; simpa only [List.append_assoc] using this))
                    clear hc2 hc hls
                    go_wp2_with (first | (go_at_call 128; refine HR.out.mono ?_; rintro e w2 ⟨rfl, hS2⟩) | fail)
                    go_meet
                    exact ⟨rfl, Lib.hid (by simpa only [List.append_assoc] using hS2)⟩
                  · obtain rfl : c2 = false := by rw [hc2]; exact decide_eq_false hc
                    have HR : Hid (SWL w0 blk off (P ++ isort (X1 ++ Y1) ++ X2 ++ Y2 ++ S) w3) := by
                      have q := HQ.out
                      have y1 := HL1.out
                      have y3 := HL3.out
                      have hsp := HS3.out
                      have hi : isort (X1 ++ Y1) = X1 ++ Y1 := by
                        rcases Nat.eq_zero_or_pos X1.length with h | h
                        · rw [List.eq_nil_of_length_eq_zero h, List.nil_append]; exact isort_srt_self s3
                        · have h3 : Y1.length = 0 := by omega
                          rw [List.eq_nil_of_length_eq_zero h3, List.append_nil]; exact isort_srt_self s1
                      rw [hi]
                      exact Lib.hid (by simpa only [List.append_assoc] using hsp)
                    clear hc2 hc hls
                    go_wp2_with fail
                    go_meet
                    exact ⟨rfl, HR⟩
                case rest =>
                  obtain ⟨rfl, HS4⟩ := hcut
                  generalize wc = w4 at HS4 ⊢
                  clear HS3 hc2
                  go_upto_region 43 with fail
                  obtain ⟨c3, hc3⟩ : ∃ c : Bool, c = decide (mid < t ∧ t < b) := ⟨_, rfl⟩
                  go_cut [213] from 206 to 212 (fun s213 wx => s213 = .bool c3 ∧ wx = w4)
                  case first =>
                    by_cases z1 : mid < t
                    · have z1z : (mid : Int) < (t : Int) := by omega
                      by_cases z2 : t < b
                      · have z2z : (t : Int) < (b : Int) := by omega
                        obtain rfl : c3 = true := by rw [hc3]; exact decide_eq_true ⟨z1, z2⟩
                        clear hc3
                        go_wp2_with fail
                        go_meet
                        exact ⟨rfl, rfl⟩
                      · have z2z : ¬ (t : Int) < (b : Int) := by omega
                        obtain rfl : c3 = false := by rw [hc3]; exact decide_eq_false (fun h => z2 h.2)
                        clear hc3
                        go_wp2_with fail
                        go_meet
                        exact ⟨by first | rfl | (simp; omega), rfl⟩
                    · have z1z : ¬ (mid : Int) < (t : Int) := by omega
                      obtain rfl : c3 = false := by rw [hc3]; exact decide_eq_false (fun h => z1 h.1)
                      clear hc3
                      go_wp2_with fail
                      go_meet
                      exact ⟨by first | rfl | (simp; omega), rfl⟩
                  case rest =>
                    obtain ⟨rfl, hwc⟩ := hcut
                    rw [hwc]
                    clear hwc
                    by_cases hc : mid < t ∧ t < b
                    · obtain rfl : c3 = true := by rw [hc3]; exact decide_eq_true hc
                      have HR : Hid (Calls Tryz.prog 128 #[.slice (some ⟨blk, off, none⟩) N cap, .int .i64 mid, .int .i64 t, .int .i64 b, .func (.func 91) #[] #[]] w4 (SwOk w0 blk off (P ++ isort (X1 ++ Y1) ++ isort (X2 ++ Y2) ++ S))) := by
                        have q := HQ.out
                        have p0 := HP.out
                        have y1 := HL1.out
                        have y2 := HL2.out
                        have y3 := HL3.out
                        have y4 := HL4.out
                        have yi := isort_len (X1 ++ Y1)
                        rw [List.length_append] at yi
                        exact Lib.hid (HIH.out (P ++ isort (X1 ++ Y1)) X2 Y2 S mid t b (by omega) (by rw [List.length_append]; omega) (by rw [List.length_append]; omega) (by rw [List.length_append]; omega) (by omega) (by omega) s2 s4 (by simp only [List.length_append] at yi ⊢; omega) w4 HS4.out)
                      clear hc3 hc hls
                      go_wp2_with (first | (go_at_call 128; refine HR.out.mono ?_; rintro e w2 ⟨rfl, hS2⟩) | fail)
                      go_end0
                      exact ⟨rfl, by rw [← HFE.out]; simpa only [List.append_assoc] using hS2⟩
                    · obtain rfl : c3 = false := by rw [hc3]; exact decide_eq_false hc
                      have HR : Hid (SWL w0 blk off F w4) := by
                        have q := HQ.out
                        have y2 := HL2.out
                        have y4 := HL4.out
                        have hsp := HS4.out
                        have hi : isort (X2 ++ Y2) = X2 ++ Y2 := by
                          rcases Nat.eq_zero_or_pos X2.length with h | h
                          · rw [List.eq_nil_of_length_eq_zero h, List.nil_append]; exact isort_srt_self s4
                          · have h3 : Y2.length = 0 := by omega
                            rw [List.eq_nil_of_length_eq_zero h3, List.append_nil]; exact isort_srt_self s2
                        have hf := HFE.out
                        rw [hi] at hf
                        rw [← hf]
                        exact Lib.hid (by simpa only [List.append_assoc] using hsp)
                      clear hc3 hc hls
                      go_wp2_with fail
                      go_end0
                      exact ⟨rfl, HR.out⟩
end Go.Proofs.YtenfdnnagijfnaaGreatDoor
