/-
  fasciaref12: worth, Number.
-/
import Derived.Test.YtpmdecdjlegcnaaDoorFourD
namespace Go.Proofs.YtpmdecdjlegcnaaDoor.Fou
open Go.RowKit

def Worth (c : UInt8) (w : World) (e : Ending) (w' : World) : Prop := e = .returned (.int .i64 (dv c : Int)) ∧ w = w'
theorem worth_mk {v : Nat} {d : Int} (h : (v : Int) = d) : (Ending.returned (.int .i64 d) : Ending) = .returned (.int .i64 (v : Int)) := by rw [h]
set_option maxRecDepth 100000 in
set_option maxHeartbeats 1000000 in
theorem worth_any (c : UInt8) (w : World) : Calls Tryd.prog 31 #[.int .u8 (c.toNat : Int)] w (Worth c w) := by
  have hc8 : c.toNat < 256 := c.toNat_lt
  have hdv := digit_v (z := c.toNat) (v := dv c) rfl
  unfold Worth
  generalize dv c = v at hdv
  generalize c.toNat = z at hc8 hdv
  have HV := Lib.hid hdv
  clear hdv
  go_enter Tryd.func31, Tryd.ntmps31
  go_wp2
  all_goals
    go_ret
    obtain ⟨hv1, hv2, hv3, hv4⟩ := HV.out
    exact ⟨worth_mk (by omega), rfl⟩

theorem dv_le (c : UInt8) : dv c ≤ 99 := by
  have := c.toNat_lt
  unfold dv
  split
  · omega
  · split
    · omega
    · split <;> omega
set_option maxRecDepth 100000 in
set_option maxHeartbeats 4000000 in
theorem refNumber_any (s : ByteArray) (w : World) (hs : s.size ≤ 1000000) : Calls Tryd.prog 10 #[.string s] w (NumR (num (dl s)) w) := by
  by_cases h0 : dl s = []
  · have h1 : s.size = 0 := by rw [Lib.size_eq]; show (dl s).length = 0; rw [h0]; rfl
    have hone : ((s.size : Int) == 0) = true := by rw [h1]; rfl
    have HN : Hid (num (dl s) = none) := Lib.hid (if_pos h0)
    clear h0 h1
    go_enter Tryd.func10, Tryd.ntmps10
    go_wp2_with fail
    go_ret2
    exact numR_none HN.out (Below.refl _ _)
  have HNE := Lib.hid h0
  have hp : 0 < s.size := by rw [Lib.size_eq]; exact List.length_pos_iff.2 h0
  have hz := Lib.size_eq s
  have hzero : ((s.size : Int) == 0) = false := beq_eq_false_iff_ne.2 (by omega)
  by_cases h1 : s.size = 1
  · have htwo : ¬ ((2 : Int) ≤ s.size) := by omega
    have hd : Hid (dgs (dl s) = (dl s, 10)) := by
      obtain ⟨x, hx⟩ := List.length_eq_one_iff.1 (hz.symm.trans h1)
      exact Lib.hid (by rw [dl, hx]; rfl)
    have hsz : s.size ≤ 1000000 := hs
    clear h1 hz h0 hs
    have hz : (dl (s)).length = (s).size := by simp [dl]
    have HZ := Lib.hid hz
    have HD : Hid (num (dl s) = val 10 (dl (s))) := Lib.hid (by unfold num; rw [if_neg HNE.out, hd.out])
    clear hz hd
    go_enter Tryd.func10, Tryd.ntmps10
    go_wp2_with fail
    go_loop [5, 6] (fun s5 s6 => ∃ k n : Nat, s6 = .int .i64 (k : Int) ∧ s5 = .int .u64 (n : Int) ∧ k ≤ s.size ∧ n ≤ 4294967296 ∧ Hid (vgo 10 0 ((dl s).take k) = some n)) (fun _ s6 => s.size - (intOf s6).toNat)
    case atStart => exact ⟨0, 0, rfl, rfl, Nat.zero_le _, by decide, Lib.hid rfl⟩
    case round =>
      obtain ⟨k, n, rfl, rfl, hk, hn, HV⟩ := hrel
      by_cases hlt : k < s.size
      · have hkl : k < (dl s).length := by rw [HZ.out]; exact hlt
        have hno := vgo_none_take hkl HV.out
        have hso := vgo_some_take hkl HV.out
        have hge := get_dl hlt
        generalize (dl s)[k] = x at hno hso hge
        have HG := Lib.hid hge
        have HN := Lib.hid hno
        have HSO := Lib.hid hso
        clear hno hso hge
        by_cases hd : dv x < 10
        · have HS1 := Lib.hid (HSO.out hd)
          go_wp2_with fail
          rw [HG.out]
          refine (worth_any x _).mono ?_
          rintro e w' ⟨rfl, rfl⟩
          generalize dv x = v at hd HS1 ⊢
          have hvi : (v : Int) < 10 := by omega
          go_wp2_with fail
          all_goals
            go_round
            case rel =>
              refine ⟨k + 1, cap (n * 10 + v), by go_num, ?_, by omega, cap_le _, HS1⟩
              first
              | (rw [show cap (n * 10 + v) = n * 10 + v from Nat.min_eq_left (by omega)]; go_num)
              | (rw [show cap (n * 10 + v) = 4294967296 from Nat.min_eq_right (by omega)]; rfl)
            case measure => simp [intOf]; omega
        · have HNN := Lib.hid (HN.out hd)
          go_wp2_with fail
          rw [HG.out]
          refine (worth_any x _).mono ?_
          rintro e w' ⟨rfl, rfl⟩
          have hv2 : dv x ≤ 99 := dv_le x
          generalize dv x = v at hd hv2 ⊢
          have hvi : ¬ (v : Int) < 10 := by omega
          go_wp2_with fail
          go_ret2
          exact numR_none (HD.out.trans HNN.out) (Below.refl _ _)
      · obtain rfl : k = s.size := by omega
        have HV2 : Hid (val 10 (dl s) = some n) := Lib.hid (by
          have := HV.out
          rwa [List.take_of_length_le (by rw [HZ.out]; exact Nat.le_refl _)] at this)
        clear HV
        go_wp2_with fail
        go_ret2
        exact numR_some (HD.out.trans HV2.out) (Below.refl _ _)
  · have hp1 : 1 < s.size := by omega
    have htwo : ((2 : Int) ≤ s.size) := by omega
    obtain ⟨a, b, t, hx⟩ : ∃ a b t, dl s = a :: b :: t := by
      cases h : dl s with
      | nil => exact absurd h h0
      | cons a r =>
        cases r with
        | nil => exact absurd (show s.size = 1 by rw [hz]; exact congrArg List.length h) h1
        | cons b t => exact ⟨a, b, t, rfl⟩
    have g0 : s[0] = a := by rw [get_dl hp]; simp [hx]
    have g1 : s[1] = b := by rw [get_dl hp1]; simp [hx]
    have HX := Lib.hid hx
    clear h1 hz h0 hx
    cases ha : ((s[0].toNat : Int) == 48) with
    | false =>
      have hd : Hid (dgs (dl s) = (dl s, 10)) := Lib.hid (by rw [HX.out, dgs, if_neg (by rw [← g0]; exact byte_ne (k := 48) (by decide) ha)])
      have hsz : s.size ≤ 1000000 := hs
      clear g0 g1 HX hs
      have hz : (dl (s)).length = (s).size := by simp [dl]
      have HZ := Lib.hid hz
      have HD : Hid (num (dl s) = val 10 (dl (s))) := Lib.hid (by unfold num; rw [if_neg HNE.out, hd.out])
      clear hz hd
      go_enter Tryd.func10, Tryd.ntmps10
      go_wp2_with fail
      go_loop [5, 6] (fun s5 s6 => ∃ k n : Nat, s6 = .int .i64 (k : Int) ∧ s5 = .int .u64 (n : Int) ∧ k ≤ s.size ∧ n ≤ 4294967296 ∧ Hid (vgo 10 0 ((dl s).take k) = some n)) (fun _ s6 => s.size - (intOf s6).toNat)
      case atStart => exact ⟨0, 0, rfl, rfl, Nat.zero_le _, by decide, Lib.hid rfl⟩
      case round =>
        obtain ⟨k, n, rfl, rfl, hk, hn, HV⟩ := hrel
        by_cases hlt : k < s.size
        · have hkl : k < (dl s).length := by rw [HZ.out]; exact hlt
          have hno := vgo_none_take hkl HV.out
          have hso := vgo_some_take hkl HV.out
          have hge := get_dl hlt
          generalize (dl s)[k] = x at hno hso hge
          have HG := Lib.hid hge
          have HN := Lib.hid hno
          have HSO := Lib.hid hso
          clear hno hso hge
          by_cases hd : dv x < 10
          · have HS1 := Lib.hid (HSO.out hd)
            go_wp2_with fail
            rw [HG.out]
            refine (worth_any x _).mono ?_
            rintro e w' ⟨rfl, rfl⟩
            generalize dv x = v at hd HS1 ⊢
            have hvi : (v : Int) < 10 := by omega
            go_wp2_with fail
            all_goals
              go_round
              case rel =>
                refine ⟨k + 1, cap (n * 10 + v), by go_num, ?_, by omega, cap_le _, HS1⟩
                first
                | (rw [show cap (n * 10 + v) = n * 10 + v from Nat.min_eq_left (by omega)]; go_num)
                | (rw [show cap (n * 10 + v) = 4294967296 from Nat.min_eq_right (by omega)]; rfl)
              case measure => simp [intOf]; omega
          · have HNN := Lib.hid (HN.out hd)
            go_wp2_with fail
            rw [HG.out]
            refine (worth_any x _).mono ?_
            rintro e w' ⟨rfl, rfl⟩
            have hv2 : dv x ≤ 99 := dv_le x
            generalize dv x = v at hd hv2 ⊢
            have hvi : ¬ (v : Int) < 10 := by omega
            go_wp2_with fail
            go_ret2
            exact numR_none (HD.out.trans HNN.out) (Below.refl _ _)
        · obtain rfl : k = s.size := by omega
          have HV2 : Hid (val 10 (dl s) = some n) := Lib.hid (by
            have := HV.out
            rwa [List.take_of_length_le (by rw [HZ.out]; exact Nat.le_refl _)] at this)
          clear HV
          go_wp2_with fail
          go_ret2
          exact numR_some (HD.out.trans HV2.out) (Below.refl _ _)
    | true =>
      have e48 : a = 48 := by rw [← g0]; exact byte_eq (k := 48) (by decide) ha
      cases hb : ((s[1].toNat : Int) == 120) with
      | true =>
        have e120 : b = 120 := by rw [← g1]; exact byte_eq (k := 120) (by decide) hb
        have hd : Hid (dgs (dl s) = (dl (s.extract 2 s.size), 16)) := Lib.hid (by rw [show dl (s.extract 2 s.size) = (dl s).drop 2 from ext_drop _ _ _ rfl, HX.out, dgs, if_pos e48, if_pos (.inl e120)]; rfl)
        have hsz : (s.extract 2 s.size).size ≤ 1000000 := by rw [ByteArray.size_extract]; omega
        clear g0 g1 e48 e120 HX
        have hz : (dl (s.extract 2 s.size)).length = (s.extract 2 s.size).size := by simp [dl]
        have HZ := Lib.hid hz
        have HD : Hid (num (dl s) = val 16 (dl (s.extract 2 s.size))) := Lib.hid (by unfold num; rw [if_neg HNE.out, hd.out])
        clear hz hd
        go_enter Tryd.func10, Tryd.ntmps10
        go_wp2_with fail
        obtain ⟨t, ht⟩ : ∃ t, s.extract 2 s.size = t := ⟨_, rfl⟩
        rw [ht] at HZ HD hsz ⊢
        clear ht
        go_loop [5, 6] (fun s5 s6 => ∃ k n : Nat, s6 = .int .i64 (k : Int) ∧ s5 = .int .u64 (n : Int) ∧ k ≤ t.size ∧ n ≤ 4294967296 ∧ Hid (vgo 16 0 ((dl t).take k) = some n)) (fun _ s6 => t.size - (intOf s6).toNat)
        case atStart => exact ⟨0, 0, rfl, rfl, Nat.zero_le _, by decide, Lib.hid rfl⟩
        case round =>
          obtain ⟨k, n, rfl, rfl, hk, hn, HV⟩ := hrel
          by_cases hlt : k < t.size
          · have hkl : k < (dl t).length := by rw [HZ.out]; exact hlt
            have hno := vgo_none_take hkl HV.out
            have hso := vgo_some_take hkl HV.out
            have hge := get_dl hlt
            generalize (dl t)[k] = x at hno hso hge
            have HG := Lib.hid hge
            have HN := Lib.hid hno
            have HSO := Lib.hid hso
            clear hno hso hge
            by_cases hd : dv x < 16
            · have HS1 := Lib.hid (HSO.out hd)
              go_wp2_with fail
              rw [HG.out]
              refine (worth_any x _).mono ?_
              rintro e w' ⟨rfl, rfl⟩
              generalize dv x = v at hd HS1 ⊢
              have hvi : (v : Int) < 16 := by omega
              go_wp2_with fail
              all_goals
                go_round
                case rel =>
                  refine ⟨k + 1, cap (n * 16 + v), by go_num, ?_, by omega, cap_le _, HS1⟩
                  first
                  | (rw [show cap (n * 16 + v) = n * 16 + v from Nat.min_eq_left (by omega)]; go_num)
                  | (rw [show cap (n * 16 + v) = 4294967296 from Nat.min_eq_right (by omega)]; rfl)
                case measure => simp [intOf]; omega
            · have HNN := Lib.hid (HN.out hd)
              go_wp2_with fail
              rw [HG.out]
              refine (worth_any x _).mono ?_
              rintro e w' ⟨rfl, rfl⟩
              have hv2 : dv x ≤ 99 := dv_le x
              generalize dv x = v at hd hv2 ⊢
              have hvi : ¬ (v : Int) < 16 := by omega
              go_wp2_with fail
              go_ret2
              exact numR_none (HD.out.trans HNN.out) (Below.refl _ _)
          · obtain rfl : k = t.size := by omega
            have HV2 : Hid (val 16 (dl t) = some n) := Lib.hid (by
              have := HV.out
              rwa [List.take_of_length_le (by rw [HZ.out]; exact Nat.le_refl _)] at this)
            clear HV
            go_wp2_with fail
            go_ret2
            exact numR_some (HD.out.trans HV2.out) (Below.refl _ _)
      | false =>
        have n120 : ¬ b = 120 := by rw [← g1]; exact byte_ne (k := 120) (by decide) hb
        cases hc : ((s[1].toNat : Int) == 88) with
        | true =>
          have e88 : b = 88 := by rw [← g1]; exact byte_eq (k := 88) (by decide) hc
          have hd : Hid (dgs (dl s) = (dl (s.extract 2 s.size), 16)) := Lib.hid (by rw [show dl (s.extract 2 s.size) = (dl s).drop 2 from ext_drop _ _ _ rfl, HX.out, dgs, if_pos e48, if_pos (.inr e88)]; rfl)
          have hsz : (s.extract 2 s.size).size ≤ 1000000 := by rw [ByteArray.size_extract]; omega
          clear g0 g1 e48 e88 n120 HX
          have hz : (dl (s.extract 2 s.size)).length = (s.extract 2 s.size).size := by simp [dl]
          have HZ := Lib.hid hz
          have HD : Hid (num (dl s) = val 16 (dl (s.extract 2 s.size))) := Lib.hid (by unfold num; rw [if_neg HNE.out, hd.out])
          clear hz hd
          go_enter Tryd.func10, Tryd.ntmps10
          go_wp2_with fail
          obtain ⟨t, ht⟩ : ∃ t, s.extract 2 s.size = t := ⟨_, rfl⟩
          rw [ht] at HZ HD hsz ⊢
          clear ht
          go_loop [5, 6] (fun s5 s6 => ∃ k n : Nat, s6 = .int .i64 (k : Int) ∧ s5 = .int .u64 (n : Int) ∧ k ≤ t.size ∧ n ≤ 4294967296 ∧ Hid (vgo 16 0 ((dl t).take k) = some n)) (fun _ s6 => t.size - (intOf s6).toNat)
          case atStart => exact ⟨0, 0, rfl, rfl, Nat.zero_le _, by decide, Lib.hid rfl⟩
          case round =>
            obtain ⟨k, n, rfl, rfl, hk, hn, HV⟩ := hrel
            by_cases hlt : k < t.size
            · have hkl : k < (dl t).length := by rw [HZ.out]; exact hlt
              have hno := vgo_none_take hkl HV.out
              have hso := vgo_some_take hkl HV.out
              have hge := get_dl hlt
              generalize (dl t)[k] = x at hno hso hge
              have HG := Lib.hid hge
              have HN := Lib.hid hno
              have HSO := Lib.hid hso
              clear hno hso hge
              by_cases hd : dv x < 16
              · have HS1 := Lib.hid (HSO.out hd)
                go_wp2_with fail
                rw [HG.out]
                refine (worth_any x _).mono ?_
                rintro e w' ⟨rfl, rfl⟩
                generalize dv x = v at hd HS1 ⊢
                have hvi : (v : Int) < 16 := by omega
                go_wp2_with fail
                all_goals
                  go_round
                  case rel =>
                    refine ⟨k + 1, cap (n * 16 + v), by go_num, ?_, by omega, cap_le _, HS1⟩
                    first
                    | (rw [show cap (n * 16 + v) = n * 16 + v from Nat.min_eq_left (by omega)]; go_num)
                    | (rw [show cap (n * 16 + v) = 4294967296 from Nat.min_eq_right (by omega)]; rfl)
                  case measure => simp [intOf]; omega
              · have HNN := Lib.hid (HN.out hd)
                go_wp2_with fail
                rw [HG.out]
                refine (worth_any x _).mono ?_
                rintro e w' ⟨rfl, rfl⟩
                have hv2 : dv x ≤ 99 := dv_le x
                generalize dv x = v at hd hv2 ⊢
                have hvi : ¬ (v : Int) < 16 := by omega
                go_wp2_with fail
                go_ret2
                exact numR_none (HD.out.trans HNN.out) (Below.refl _ _)
            · obtain rfl : k = t.size := by omega
              have HV2 : Hid (val 16 (dl t) = some n) := Lib.hid (by
                have := HV.out
                rwa [List.take_of_length_le (by rw [HZ.out]; exact Nat.le_refl _)] at this)
              clear HV
              go_wp2_with fail
              go_ret2
              exact numR_some (HD.out.trans HV2.out) (Below.refl _ _)
        | false =>
          have n88 : ¬ b = 88 := by rw [← g1]; exact byte_ne (k := 88) (by decide) hc
          have hd : Hid (dgs (dl s) = (dl (s.extract 1 s.size), 8)) := Lib.hid (by rw [show dl (s.extract 1 s.size) = (dl s).drop 1 from ext_drop _ _ _ rfl, HX.out, dgs, if_pos e48, if_neg (by rintro (h | h); exact n120 h; exact n88 h)]; rfl)
          have hsz : (s.extract 1 s.size).size ≤ 1000000 := by rw [ByteArray.size_extract]; omega
          clear g0 g1 e48 n88 n120 HX
          have hz : (dl (s.extract 1 s.size)).length = (s.extract 1 s.size).size := by simp [dl]
          have HZ := Lib.hid hz
          have HD : Hid (num (dl s) = val 8 (dl (s.extract 1 s.size))) := Lib.hid (by unfold num; rw [if_neg HNE.out, hd.out])
          clear hz hd
          go_enter Tryd.func10, Tryd.ntmps10
          go_wp2_with fail
          obtain ⟨t, ht⟩ : ∃ t, s.extract 1 s.size = t := ⟨_, rfl⟩
          rw [ht] at HZ HD hsz ⊢
          clear ht
          go_loop [5, 6] (fun s5 s6 => ∃ k n : Nat, s6 = .int .i64 (k : Int) ∧ s5 = .int .u64 (n : Int) ∧ k ≤ t.size ∧ n ≤ 4294967296 ∧ Hid (vgo 8 0 ((dl t).take k) = some n)) (fun _ s6 => t.size - (intOf s6).toNat)
          case atStart => exact ⟨0, 0, rfl, rfl, Nat.zero_le _, by decide, Lib.hid rfl⟩
          case round =>
            obtain ⟨k, n, rfl, rfl, hk, hn, HV⟩ := hrel
            by_cases hlt : k < t.size
            · have hkl : k < (dl t).length := by rw [HZ.out]; exact hlt
              have hno := vgo_none_take hkl HV.out
              have hso := vgo_some_take hkl HV.out
              have hge := get_dl hlt
              generalize (dl t)[k] = x at hno hso hge
              have HG := Lib.hid hge
              have HN := Lib.hid hno
              have HSO := Lib.hid hso
              clear hno hso hge
              by_cases hd : dv x < 8
              · have HS1 := Lib.hid (HSO.out hd)
                go_wp2_with fail
                rw [HG.out]
                refine (worth_any x _).mono ?_
                rintro e w' ⟨rfl, rfl⟩
                generalize dv x = v at hd HS1 ⊢
                have hvi : (v : Int) < 8 := by omega
                go_wp2_with fail
                all_goals
                  go_round
                  case rel =>
                    refine ⟨k + 1, cap (n * 8 + v), by go_num, ?_, by omega, cap_le _, HS1⟩
                    first
                    | (rw [show cap (n * 8 + v) = n * 8 + v from Nat.min_eq_left (by omega)]; go_num)
                    | (rw [show cap (n * 8 + v) = 4294967296 from Nat.min_eq_right (by omega)]; rfl)
                  case measure => simp [intOf]; omega
              · have HNN := Lib.hid (HN.out hd)
                go_wp2_with fail
                rw [HG.out]
                refine (worth_any x _).mono ?_
                rintro e w' ⟨rfl, rfl⟩
                have hv2 : dv x ≤ 99 := dv_le x
                generalize dv x = v at hd hv2 ⊢
                have hvi : ¬ (v : Int) < 8 := by omega
                go_wp2_with fail
                go_ret2
                exact numR_none (HD.out.trans HNN.out) (Below.refl _ _)
            · obtain rfl : k = t.size := by omega
              have HV2 : Hid (val 8 (dl t) = some n) := Lib.hid (by
                have := HV.out
                rwa [List.take_of_length_le (by rw [HZ.out]; exact Nat.le_refl _)] at this)
              clear HV
              go_wp2_with fail
              go_ret2
              exact numR_some (HD.out.trans HV2.out) (Below.refl _ _)
end Go.Proofs.YtpmdecdjlegcnaaDoor.Fou
