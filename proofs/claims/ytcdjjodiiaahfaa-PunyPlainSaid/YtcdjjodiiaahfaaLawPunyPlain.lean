/-
  For any code points, made scalars: the plain ones stand ahead as they are, with one hyphen behind if there are some; all others are letters and digits alone, at least one each (fascialaw04.PunyPlain answers true). No condition.
-/
import Derived.Test.YtcdjjodiiaahfaaPunyU
import Derived.Test.YtcdjjodiiaahfaaFrame
namespace Go.Proofs.Ytcdjjodiiaahfaa.punyPlain
open Go.ChangeShapes Go.WideShapes Go.ChangeAt Go.RowKit Puny
open Go.ChangeMaps (open_string shut_string)
open Go.Maps (Keyed)

theorem walkLong (a0 : Option Addr) (n0 c0 : Nat) (w : World) (h0 : 300 < n0) (hm0 : n0 ≤ 9223372036854775807) :
    Calls Try.prog 5 #[.slice a0 n0 c0] w (IsB true w) := by
  have g : decide (300 < (n0 : Int)) = true := by simp; omega
  go_enter Try.func5, Try.ntmps5
  go_wp2_with fail
  refine (awake_any _).mono ?_
  rintro e w1 ⟨rfl, hB⟩
  go_wp2
  go_ret
  exact ⟨rfl, hB⟩

set_option maxRecDepth 100000 in
set_option maxHeartbeats 4000000 in
theorem walkShort (l : List Int) (a0 : Option Addr) (n0 c0 : Nat) (w : World) (h0 : n0 ≤ 300) (hl0 : l.length = n0) (hr0 : Row w w.heap.size a0 (cl .i32 l)) :
    Calls Try.prog 5 #[.slice a0 n0 c0] w (IsB true w) := by
  have HN := Lib.hid hl0
  clear hl0
  go_enter Try.func5, Try.ntmps5
  go_wp2_with fail
  refine (scalars_any l _ _ _ _ HN.out (by omega) hr0).mono ?_
  rintro e w1 ⟨v, rfl, ho, hB1⟩
  obtain ⟨A1, c1, rfl, _, hx⟩ := own_form ho
  have hW1 := hB1
  have hXl := scs_len l
  rw [HN.out] at hXl
  have HX := Lib.hid (scs_sca l)
  clear ho hB1 hr0
  obtain ⟨X, hX⟩ : ∃ X, scs l = X := ⟨_, rfl⟩
  rw [hX] at hXl HX hx ⊢
  clear hX
  obtain ⟨nx, hnx⟩ : ∃ nx, X.length = nx := ⟨_, rfl⟩
  rw [hnx] at hXl ⊢
  have HNX := Lib.hid hnx
  clear hnx HN
  go_wp2_with fail
  refine (EncodeN_any X _ _ _ _ HNX.out (by omega) HX.out hx).mono ?_
  rintro e w2 ⟨s, rfl, hs, hB2⟩
  have HS := Lib.hid hs
  have hW2 := upB hW1 hB2
  replace hx := hx.go hB2
  clear hB2 hW1 hs
  go_wp2
  go_loopg [5, 6, 24] nx (fun k s5 s6 s24 wr => ∃ (i m : Nat) (L : List UInt8), s24 = .int .i64 (i : Int) ∧ s6 = .int .i64 (m : Int) ∧ s5 = .string (bs L) ∧ i + k = nx ∧ Hid (L = (Puny.basics (X.take i)).map UInt8.ofNat) ∧ m ≤ i ∧ L.length ≤ i ∧ Hid (m + (Puny.basics (X.take i)).length = i) ∧ wr = w2)
  case atStart => exact ⟨0, 0, [], rfl, rfl, rfl, by omega, Lib.hid (by simp [Puny.basics]), by omega, by simp, Lib.hid (by simp [Puny.basics]), rfl⟩
  case round =>
    obtain ⟨i, m, L, rfl, rfl, rfl, hik, HL, hmi, hLi, HM, hwr⟩ := hrel
    rw [hwr]
    clear hwr
    rcases gk with _ | k
    · obtain rfl : i = nx := by omega
      have HLb : Hid (L = (Puny.basics X).map UInt8.ofNat) := Lib.hid (by rw [HL.out, List.take_of_length_le (by rw [HNX.out]; omega)])
      have HMb : Hid (m + (Puny.basics X).length = X.length) := Lib.hid (by have h := HM.out; rwa [List.take_of_length_le (by rw [HNX.out]; omega), ← HNX.out] at h)
      clear HL HM
      go_upto_if 38 with fail
      go_cut [5] from 37 (fun s5 wx => s5 = .string (bs (hd X)) ∧ wx = w2)
      case first =>
        by_cases hb : Puny.basics X = []
        · have hL0 : L = [] := by rw [HLb.out, hb]; rfl
          subst hL0
          have he : (bs []).toList.isEmpty = true := by rw [ByteArray.toList_eq, bs_data]; rfl
          rw [he]
          have HH : Hid (hd X = []) := Lib.hid (hd_nil hb)
          clear hb
          go_wp2_with fail
          go_meet
          exact ⟨by rw [HH.out], rfl⟩
        · have hL0 : L ≠ [] := by rw [HLb.out]; simpa using hb
          have he := empty_no hL0
          rw [he]
          have hz : (bs L).size ≤ 300 := by rw [bs_size]; omega
          have HH : Hid (bs L ++ bs [45] = bs (hd X)) := Lib.hid (by rw [bs_app, hd_cons hb, HLb.out])
          clear hb hL0
          go_wp2_with fail
          go_meet
          exact ⟨congrArg Value.string HH.out, rfl⟩
      case rest =>
        obtain ⟨rfl, hwc⟩ := hcut
        rw [hwc]
        clear hwc
        have HSP : Hid (s.data.toList = (bs (hd X)).data.toList ++ tl X) := Lib.hid (by rw [HS.out, bs_data, encT_parts])
        have hsz : s.size = (bs (hd X)).size + (tl X).length := by rw [Lib.size_eq, Lib.size_eq, HSP.out, List.length_append]
        have hz10 : s.size ≤ 10000 := by
          rw [Lib.size_eq, HS.out]
          exact encT_len HX.out (by rw [HNX.out]; omega)
        have hmd : m = (deltas X).length := by have h1 := HMb.out; have h2 := deltas_len HX.out; omega
        have hT : m ≤ (tl X).length := by rw [hmd]; exact tl_len X
        have HT0 : Hid (m = 0 → tl X = []) := Lib.hid (fun h => tl_nil (by omega))
        have HB : Hid (∀ k (h : k < (tl X).length), (97 ≤ ((tl X)[k]).toNat ∧ ((tl X)[k]).toNat ≤ 122) ∨ (48 ≤ ((tl X)[k]).toNat ∧ ((tl X)[k]).toNat ≤ 57)) := Lib.hid (fun k h => tl_byte X h)
        clear HMb HLb hmd HS HX HNX hx hmi hLi hik
        generalize bs (hd X) = p at HSP hsz ⊢
        generalize tl X = t at HSP hsz hT HT0 HB ⊢
        obtain ⟨T, hTl⟩ : ∃ T, t.length = T := ⟨_, rfl⟩
        rw [hTl] at hsz hT
        have HTL := Lib.hid hTl
        clear hTl
        have HXD : Hid ((s.extract p.size s.size).data.toList = t) := Lib.hid (by
          rw [ext_data, HSP.out, Lib.size_eq, List.drop_left])
        have HXS : Hid ((s.extract p.size s.size).size = T) := Lib.hid (by rw [Lib.size_eq, HXD.out, HTL.out])
        obtain ⟨W', cB, hcv, hBW, hcells⟩ := conv_bytes (s.extract p.size s.size) w2
        rw [HXS.out, hsz] at hcv
        have HCL : Hid (∀ k (h : k < t.length), W'.cell? ⟨w2.heap.size, k, none⟩ = some (.int .u8 ((t[k].toNat : Nat) : Int))) := Lib.hid (fun k h => by
          have h1 := hcells k (by rw [HXD.out]; exact h)
          have h2 : (s.extract p.size s.size).data.toList[k]'(by rw [HXD.out]; exact h) = t[k] := List.getElem_of_eq HXD.out _
          rw [h2] at h1
          exact h1)
        clear hcells
        have hps : (p.size : Int) ≤ (s.size : Int) := by omega
        have hpm : (p.size : Int) + (m : Int) ≤ (s.size : Int) := by omega
        have hpmn : ¬ (s.size : Int) < (p.size : Int) + (m : Int) := by omega
        have hsp : m = 0 → (s.toList == p.toList) = true := fun h => by
          rw [str_beq, decide_eq_true_eq, bytes_ext, HSP.out, HT0.out h, List.append_nil]
        have HSPB := Lib.hid hsp
        clear hsp
        go_upto_region 15 with fail
        go_cut [66] from 41 (fun s66 wx => s66 = .bool false ∧ wx = w2)
        case first =>
          by_cases hm0 : m = 0
          · have hs' := HSPB.out hm0
            have hs2 : (s.toList != p.toList) = false := by rw [bne, hs']; rfl
            subst hm0
            go_wp2_with (first | (go_at_call 15; refine (HasPrefix_yes s p t _ HSP.out).mono ?_; rintro e w' ⟨rfl, rfl⟩) | fail)
            go_meet
            exact ⟨congrArg Value.bool (decide_eq_false (by omega)), rfl⟩
          · have hm1 : ((m : Int) == 0) = false := by simp; omega
            have hm2 : ¬ (m : Int) = 0 := by omega
            go_wp2_with (first | (go_at_call 15; refine (HasPrefix_yes s p t _ HSP.out).mono ?_; rintro e w' ⟨rfl, rfl⟩) | fail)
            go_meet
            exact ⟨congrArg Value.bool (decide_eq_false (by omega)), rfl⟩
        case rest =>
          obtain ⟨rfl, hwc⟩ := hcut
          rw [hwc]
          clear hwc hpmn hpm hT HSPB
          go_wp2_with fail
          go_loopg [73] T (fun k s73 wr => ∃ i : Nat, s73 = .int .i64 (i : Int) ∧ i + k = T ∧ wr = W')
          case atStart => exact ⟨0, rfl, by omega, rfl⟩
          case round =>
            obtain ⟨j, rfl, hjk, hwr⟩ := hrel
            rw [hwr]
            clear hwr
            rcases gk with _ | k
            · obtain rfl : j = T := by omega
              go_wp2_with fail
              refine (awake_any _).mono ?_
              rintro e w9 ⟨rfl, hB9⟩
              go_wp2
              go_ret
              exact ⟨rfl, upB (upB hW2 hBW) hB9⟩
            · have hjl : j < t.length := by rw [HTL.out]; omega
              have hjT : (j : Int) < (T : Int) := by omega
              have hcell := HCL.out j hjl
              have hby := HB.out j hjl
              obtain ⟨c, hc⟩ : ∃ c, (t[j]).toNat = c := ⟨_, rfl⟩
              rw [hc] at hcell hby
              clear hc
              rcases hby with ⟨b1, b2⟩ | ⟨b1, b2⟩
              · have q1 : ¬ (c : Int) < 97 := by omega
                have q2 : ¬ (122 : Int) < (c : Int) := by omega
                have q3 : (97 : Int) ≤ (c : Int) := by omega
                have q4 : (c : Int) ≤ 122 := by omega
                go_wp2
                go_roundg k
                case measure => omega
                case rel => exact ⟨j + 1, by go_num, by omega, rfl⟩
              · have q1 : (c : Int) < 97 := by omega
                have q2 : ¬ (c : Int) < 48 := by omega
                have q3 : (48 : Int) ≤ (c : Int) := by omega
                have q4 : (c : Int) ≤ 57 := by omega
                go_wp2
                go_roundg k
                case measure => omega
                case rel => exact ⟨j + 1, by go_num, by omega, rfl⟩
    · have hin : i < X.length := by rw [HNX.out]; omega
      have hilt : (i : Int) < (nx : Int) := by omega
      obtain ⟨bb, off, rfl, hbb, hc⟩ := hx.at_ (by simp; omega)
      have hcell := hc i (by simp; omega)
      rw [cn_get _ _ hin] at hcell
      have HBT := Lib.hid (basics_take hin)
      obtain ⟨r, hr⟩ : ∃ r, X[i] = r := ⟨_, rfl⟩
      rw [hr] at hcell HBT
      have hxs := hx
      have HC := Lib.hid hc
      clear hc hr
      by_cases h128 : r < 128
      · have hz : (r : Int) < 128 := by omega
        have hcv := conv_rune r h128 w2
        have hsz : (bs L).size ≤ 300 := by rw [bs_size]; omega
        have hone : (⟨#[UInt8.ofNat r]⟩ : ByteArray) = bs [UInt8.ofNat r] := rfl
        rw [hone] at hcv
        have hs1 : (bs [UInt8.ofNat r]).size = 1 := by rw [bs_size]; rfl
        clear hone
        go_wp2
        go_roundg k
        case measure => omega
        case rel => exact ⟨i + 1, m, L ++ [UInt8.ofNat r], by go_num, rfl, congrArg Value.string (bs_app _ _), by omega, Lib.hid (by rw [HBT.out, if_pos h128, List.map_append, ← HL.out]; rfl), by omega, by rw [List.length_append, List.length_singleton]; omega, Lib.hid (by rw [HBT.out, if_pos h128, List.length_append, List.length_singleton]; have := HM.out; omega), rfl⟩
      · have hz : ¬ (r : Int) < 128 := by omega
        have hy : (128 : Int) ≤ (r : Int) := by omega
        go_wp2
        go_roundg k
        case measure => omega
        case rel => exact ⟨i + 1, m + 1, L, by go_num, by go_num, rfl, by omega, Lib.hid (by rw [HBT.out, if_neg h128, List.append_nil]; exact HL.out), by omega, by omega, Lib.hid (by rw [HBT.out, if_neg h128, List.append_nil]; have := HM.out; omega), rfl⟩

theorem walk (a0 : Option Addr) (len0 cap0 : Nat) (z0 : List Int) (w : World) (w0 : InRow .i32 w a0 len0 cap0 z0) :
    Calls Try.prog 5 #[.slice a0 len0 cap0] w (IsB true w) := by
  obtain ⟨e0, g0, m0, r0, _⟩ := w0
  unfold maxLen at m0
  by_cases h : 300 < len0
  · exact walkLong a0 len0 cap0 w h (by omega)
  · exact walkShort z0 a0 len0 cap0 w (by omega) e0 r0

/-! From the walk to the given statement. -/
set_option linter.unusedVariables false
theorem own : ownKnob Try.prog.godebug = none := by kernel_rfl
theorem laidOut : laidOutB Try.prog = true := by kernel_rfl
set_option maxRecDepth 100000 in
theorem lifted (os : Os) (started : os.Started) (H : Type) (enc : TypeId × Value → H) :
    ReturnsInHanded {} Try.checked os 5 .any (Rows.punyPlainSpec.pre6 enc Try.prog Try.f5 Rows.punyPlainRow.domain false) (Rows.punyPlainSpec.post enc Try.prog Try.f5 false true false false) := by
  refine returnsInHanded_of_change (C := Try.checked) own started (by kernel_rfl) Try.func5
    (ChangeSpec.witness6 (enc := enc) (C := Try.checked) false ⟨#[], #[.slice none 0 0], []⟩ 8 (by kernel_rfl) (by kernel_rfl) (by kernel_rfl) (by kernel_rfl)) ?_
  intro W base args ds gs before hval0 hW hcnd _
  have hval : ∀ (j : Nat) t v, Try.f5.params[j]? = some t → args[j]? = some v → Value.okWide Try.prog W .any base t v := hval0
  have hW' := hW
  obtain ⟨p, q, hA0, hV, rfl, hfz, hnd⟩ := hW
  have hA : DataW.TrodAll enc Try.prog W 0 (fun _ => true) true Try.f5.params.toList args.toList ds p := hA0
  rw [Try.params5] at hA hval
  obtain ⟨v0, vs0, d0, ds0, p0, q0, hargs, rfl, rfl, h0, r0⟩ := trodAll_cons hA
  obtain ⟨rfl, rfl, rfl⟩ := trodAll_nil r0
  obtain rfl : args = #[v0] := by cases args; simp_all
  obtain ⟨rfl, rfl⟩ := trodVars_none hV
  obtain ⟨a0, len0, cap0, rfl⟩ := okWide_slice Try.underlying22 (hval 0 22 v0 rfl rfl)
  have k0 := h0
  have lt0 : ∀ x ∈ p0, x.block < W.heap.size := by obtain ⟨m, hm⟩ := k0; exact DataW.trod_lt m _ _ _ hm
  obtain ⟨z0, w0⟩ := in_row Try.underlying22 Try.underlying21 (by kernel_rfl) h0
  clear hA0 hval0
  refine (walk a0 len0 cap0 z0 W w0).mono fun e W' ⟨he, bel⟩ => ?_
  subst he
  exact ⟨_, rfl, _, _, _, [], _, [], hW', trodAll_mk1 (shut_bool Try.underlying4 _), (trodAll_cons_mk (Below.trod laidOut (by kernel_rfl) (of_decide_eq_true (by kernel_rfl)) k0 bel lt0) trodAll_mk0), rfl, bel.frame _, fun h => by cases h⟩

theorem proved : Rows.PunyPlainSaid :=
  OpenClaim.holds_of_wide 5 Try.f5 rfl rfl rfl rfl rfl rfl rfl ⟨rfl, rfl, rfl, rfl, rfl⟩ rfl rfl rfl rfl rfl (by kernel_rfl) Try.func5 (by kernel_rfl)
    (of_decide_eq_true (by kernel_rfl)) (by unfold Func.isWrapper; first | (rw [if_pos (by decide +kernel)]; kernel_rfl) | (rw [if_neg (by decide +kernel)]; exact ⟨rfl, rfl⟩))
    (fun os started H enc _ => lifted os started H enc)
end Go.Proofs.Ytcdjjodiiaahfaa.punyPlain
