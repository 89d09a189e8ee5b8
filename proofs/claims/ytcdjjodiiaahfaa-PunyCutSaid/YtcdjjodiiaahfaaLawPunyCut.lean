/-
  For any code points, made scalars, of which one is not plain, any of its digits, any byte: a text with its last digit left out is told as none, or as fewer; with a byte that is no digit in a digit's place it is none (fascialaw04.PunyCut answers true). No condition.
-/
import Derived.Test.YtcdjjodiiaahfaaPunyV
import Derived.Test.YtcdjjodiiaahfaaFrame
namespace Go.Proofs.Ytcdjjodiiaahfaa.punyCut
open Go.ChangeShapes Go.WideShapes Go.ChangeAt Go.RowKit Puny
open Go.ChangeMaps (open_string shut_string)
open Go.Maps (Keyed)

theorem walkLong (a0 : Option Addr) (n0 c0 : Nat) (at' c : Int) (w : World) (h0 : 300 < n0) (hm0 : n0 ≤ 9223372036854775807) :
    Calls Try.prog 6 #[.slice a0 n0 c0, .int .u16 at', .int .u8 c] w (IsB true w) := by
  have g : decide (300 < (n0 : Int)) = true := by simp; omega
  go_enter Try.func6, Try.ntmps6
  go_wp2_with fail
  refine (awake_any _).mono ?_
  rintro e w1 ⟨rfl, hB⟩
  go_wp2
  go_ret
  exact ⟨rfl, hB⟩

set_option maxRecDepth 100000 in
set_option maxHeartbeats 600000 in
theorem walkShort (l : List Int) (a0 : Option Addr) (n0 c0 : Nat) (z c : Int) (w : World) (h0 : n0 ≤ 300) (hz0 : 0 ≤ z) (hz1 : z ≤ 65535) (hc0 : 0 ≤ c) (hc1 : c ≤ 255) (hl0 : l.length = n0) (hr0 : Row w w.heap.size a0 (cl .i32 l)) :
    Calls Try.prog 6 #[.slice a0 n0 c0, .int .u16 z, .int .u8 c] w (IsB true w) := by
  obtain ⟨i0, hi, hzz0, hzz1, hzz2⟩ := info_parts info_i32
  have HN := Lib.hid hl0
  clear hl0
  go_enter Try.func6, Try.ntmps6
  go_wp2_with fail
  refine (scalars_any l _ _ _ _ HN.out (by omega) hr0).mono ?_
  rintro e w1 ⟨v, rfl, ho, hB1⟩
  have hW1 := hB1
  have hXl := scs_len l
  rw [HN.out] at hXl
  have HX := Lib.hid (scs_sca l)
  clear hB1 hr0
  obtain ⟨X, hX⟩ : ∃ X, scs l = X := ⟨_, rfl⟩
  rw [hX] at hXl HX ho
  clear hX
  go_wp2_with (first
    | (at_builtin; refine wpList_append_row _ rfl _ _ 22 rfl w.heap.size 21 i0 (.int .i32 0) 1 4 Try.underlying22 hi hzz0 hzz1 hzz2 rfl (by decide) _ _ _ rfl (ho.alloc _) _ _ _ _ [.int .i32 19968] rfl rfl (row_new' w1 _ _ _ rfl) (by simp [Value.oneCell']) (by unfold maxLen; omega) (by omega) (by have := hW1.size; simp; omega) ?_; intro v2 w2 hown2 hg2)
    | fail)
  have hW2 : Below w.heap.size w w2 := Below.grown (hW1.alloc hW1.size _) hg2 (by rw [World.size_alloc]; have := hW1.size; omega) (fun k hk => (ho.lt k hk).1)
  have hcn : cn X ++ [.int .i32 19968] = cn (X ++ [19968]) := by simp [cn]
  rw [hcn] at hown2
  have hYs : ∀ x ∈ X ++ [19968], sca x = true := fun x hx => by
    rcases List.mem_append.1 hx with h | h
    · exact HX.out x h
    · rw [List.mem_singleton.1 h]; decide
  have hYd : deltas (X ++ [19968]) ≠ [] := fun e => by
    have h1 := deltas_len hYs
    have h2 : (Puny.basics (X ++ [19968])).length ≤ X.length := by
      unfold Puny.basics
      rw [List.filter_append]
      have := List.length_filter_le (fun x : Nat => decide (x < 128)) X
      simpa using this
    rw [e, List.length_append] at h1
    simp at h1
    omega
  have hYl : (X ++ [19968]).length = X.length + 1 := by simp
  obtain ⟨A2, c2, rfl, hc2, hy⟩ := own_form hown2
  clear ho hg2 hown2 hW1 hcn HX hi hzz0 hzz1 hzz2
  obtain ⟨Y, hY⟩ : ∃ Y, X ++ [19968] = Y := ⟨_, rfl⟩
  rw [hY] at hYs hYd hYl hy
  clear hY
  obtain ⟨ny, hny⟩ : ∃ ny, X.length + 1 = ny := ⟨_, rfl⟩
  rw [hny] at hYl hc2 ⊢
  have hny2 : ny ≤ 301 := by omega
  have HYL := Lib.hid hYl
  have HYS := Lib.hid hYs
  have HYD := Lib.hid hYd
  clear hYl hYs hYd hny hXl HN
  go_wp2_with fail
  refine (EncodeN_any Y _ _ _ _ HYL.out (by omega) HYS.out hy).mono ?_
  rintro e w3 ⟨s, rfl, hs, hB3⟩
  have HS := Lib.hid hs
  have hW3 := upB hW2 hB3
  replace hy := hy.go hB3
  clear hB3 hW2 hs
  have htl := tl_len Y
  have hT1 : 0 < (deltas Y).length := List.length_pos_iff.2 HYD.out
  obtain ⟨T, hT⟩ : ∃ T, (tl Y).length = T := ⟨_, rfl⟩
  obtain ⟨F, hF⟩ : ∃ F, (hd Y).length = F := ⟨_, rfl⟩
  have hsz : s.size = F + T := by rw [Lib.size_eq, HS.out, encT_parts, List.length_append, hF, hT]
  have hT2 : 1 ≤ T := by omega
  have hs10 : F + T ≤ 10000 := by
    rw [← hsz, Lib.size_eq, HS.out]
    exact encT_len HYS.out (by rw [HYL.out]; omega)
  have HT := Lib.hid hT
  have HF := Lib.hid hF
  clear htl hT1 hT hF
  obtain ⟨S, hSS⟩ : ∃ S, s.size = S + 1 := ⟨s.size - 1, by omega⟩
  have hSe : S + 1 = F + T := by omega
  have HC1 : Hid ((s.extract 0 S).data.toList = (encT Y).dropLast) := Lib.hid (by have := cut_data HS.out; rwa [hSS, Nat.add_sub_cancel] at this)
  have HC2 : Hid ((s.extract 0 S).size ≤ 10000) := Lib.hid (by rw [Lib.size_eq, HC1.out, List.length_dropLast, ← HS.out, ← Lib.size_eq]; omega)
  have HCUT : Hid (∀ m, dt (encT Y).dropLast = some m → m.length < ny ∧ m ≠ Y) := Lib.hid (fun m hm => by
    have h1 := cut_one HYD.out hm HYS.out
    rw [HYL.out] at h1
    exact ⟨h1, fun e => by rw [e, HYL.out] at h1; omega⟩)
  have HSE := Lib.hid hSe
  have hS10 : S + 1 ≤ 10000 := by omega
  clear hsz HYD hSe hs10
  go_upto_region 7 with fail
  go_cut [9, 10] from 29 (fun s9 s10 wx => Row wx wx.heap.size A2 (cn Y) ∧ Below w.heap.size w wx ∧ ((∃ (m : List Nat) (A4 : Option Addr) (nm c4 : Nat), s9 = .slice A4 nm c4 ∧ s10 = .int .i64 0 ∧ Hid (m.length = nm) ∧ nm < ny ∧ Hid (m ≠ Y) ∧ Row wx wx.heap.size A4 (cn m)) ∨ (s9 = .slice none 0 0 ∧ s10 = .int .i64 40)))
  case first =>
    go_wp2_with fail
    refine (Decode_fun (s.extract 0 S) _ HC2.out).mono ?_
    unfold DecodedF
    rw [HC1.out]
    rintro e w4 (⟨m, A4, c4, hd4, rfl, hr4, hB4⟩ | ⟨hd4, rfl, hB4⟩)
    · obtain ⟨q1, q2⟩ := HCUT.out m hd4
      go_wp2
      go_meet
      exact ⟨hy.go hB4, upB hW3 hB4, .inl ⟨m, A4, m.length, c4, rfl, rfl, Lib.hid rfl, q1, Lib.hid q2, hr4⟩⟩
    · go_wp2
      go_meet
      exact ⟨hy.go hB4, upB hW3 hB4, .inr ⟨rfl, rfl⟩⟩
  case rest =>
    clear hy hW3 HCUT HC1 HC2
    obtain ⟨hy, hW3, hor⟩ := hcut
    go_upto_region 8 with fail
    go_cut [66] from 45 (fun s66 wx => s66 = .bool false ∧ Row wx wx.heap.size A2 (cn Y) ∧ Below w.heap.size w wx)
    case first =>
      rcases hor with ⟨m, A4, nm, c4, rfl, rfl, HNM, q1, HQ, hr4⟩ | ⟨rfl, rfl⟩
      · have q1z : ¬ (ny : Int) ≤ (nm : Int) := by omega
        have q1y : (nm : Int) < (ny : Int) := by omega
        go_wp2_with fail
        refine (SameN_any m Y _ _ _ _ _ _ _ HNM.out HYL.out (by omega) (by omega) hr4 hy).mono ?_
        rw [decide_eq_false HQ.out]
        rintro e w5 ⟨rfl, hB5⟩
        go_wp2_with fail
        go_meet
        exact ⟨congrArg Value.bool (decide_eq_false (by omega)), hy.go hB5, upB hW3 hB5⟩
      · go_wp2_with fail
        go_meet
        exact ⟨rfl, hy, hW3⟩
    case rest =>
      clear hy hW3 hor
      obtain ⟨rfl, hy, hW3⟩ := hcut
      go_upto_region 10 with fail
      go_cut [11] from 67 (fun s11 wx => s11 = .int .i64 (F : Int) ∧ wx = wc)
      case first =>
        go_wp2_with fail
        refine (LastIndexByte_any s 45 _ (by omega) (by omega) (by omega)).mono ?_
        rintro e w6 ⟨r, rfl, hr, rfl⟩
        rw [HS.out] at hr
        have hr2 := last_hd rfl hr
        rw [HF.out] at hr2
        clear hr
        go_wp2_with fail
        go_meet
        exact ⟨by congr 1; unfold wrap64; have := HSE.out; omega, rfl⟩
      case rest =>
        obtain ⟨rfl, hwc⟩ := hcut
        rw [hwc]
        clear hwc
        obtain ⟨q, hq⟩ : ∃ q : Nat, z.tmod (T : Int) = (q : Int) := ⟨(z.tmod T).toNat, by rw [Int.toNat_of_nonneg (Int.tmod_nonneg _ hz0)]⟩
        have hqT : q < T := by
          have := Int.tmod_lt_of_pos z (show (0 : Int) < (T : Int) by omega)
          omega
        go_upto_region 11 with fail
        go_cut [12] from 70 (fun s12 wx => s12 = .int .i64 ((F + q : Nat) : Int) ∧ Row wx wx.heap.size A2 (cn Y) ∧ Below w.heap.size w wx)
        case first =>
          have w1' : IntKind.i64.wrap z = z := IntWalk.i64_in _ (by omega)
          have e1 : (S : Int) + 1 - (F : Int) = (T : Int) := by have := HSE.out; omega
          go_wp2_with fail
          go_meet
          exact ⟨by go_num, hy, hW3⟩
        case rest =>
          clear hy hW3 hq
          obtain ⟨rfl, hy, hW3⟩ := hcut
          have hk1 : F + q ≤ S := by have := HSE.out; omega
          obtain ⟨k, hk⟩ : ∃ k, F + q = k := ⟨_, rfl⟩
          have HBD : Hid (((s.extract 0 k ++ strOfNums [c]) ++ s.extract (k + 1) (S + 1)).data.toList = hd Y ++ (tl Y).set q (UInt8.ofNat c.toNat)) := Lib.hid (by
            have h := put_data (c := c) HS.out (q := q) (by rw [HT.out]; exact hqT)
            rw [HF.out, hk, hSS] at h
            exact h)
          rw [hk] at hk1 ⊢
          clear hk
          have hs1 := strOf1_size c
          have hcv := conv_byte_d c wc
          have hkz : (k : Int) ≤ (S : Int) + 1 := by omega
          have hkz1 : (k : Int) + 1 ≤ (S : Int) + 1 := by omega
          go_upto_region 12 with fail
          go_cut [13] from 79 (fun s13 wx => ∃ bad : ByteArray, s13 = .string bad ∧ Hid (bad.data.toList = hd Y ++ (tl Y).set q (UInt8.ofNat c.toNat)) ∧ Row wx wx.heap.size A2 (cn Y) ∧ Below w.heap.size w wx)
          case first =>
            go_region
            go_wp2
            go_meet
            have hb : Below wc.heap.size wc (wc.alloc (.cells #[.int .u8 c] 5)).drew := ((Below.refl _ wc).alloc (Nat.le_refl _) _).drew
            exact ⟨_, rfl, HBD, hy.go hb, upB hW3 hb⟩
          case rest =>
            clear hy hW3 HBD hcv
            obtain ⟨bad, rfl, HBD, hy, hW3⟩ := hcut
            have HBS : Hid (bad.size ≤ 10000) := Lib.hid (by
              rw [Lib.size_eq, HBD.out, List.length_append, List.length_set, HF.out, HT.out]
              have := HSE.out
              omega)
            go_upto_region 13 with fail
            go_cut [14, 15] from 91 (fun s14 s15 wx => Row wx wx.heap.size A2 (cn Y) ∧ Below w.heap.size w wx ∧ ((∃ (m : List Nat) (A4 : Option Addr) (nm c4 : Nat), s14 = .slice A4 nm c4 ∧ s15 = .int .i64 0 ∧ Hid (m.length = nm) ∧ Hid (dt bad.data.toList = some m) ∧ nm ≤ 10000 ∧ Row wx wx.heap.size A4 (cn m)) ∨ (s14 = .slice none 0 0 ∧ s15 = .int .i64 40 ∧ Hid (dt bad.data.toList = none))))
            case first =>
              go_wp2_with fail
              refine (Decode_fun bad _ HBS.out).mono ?_
              rintro e w4 (⟨m, A4, c4, hd4, rfl, hr4, hB4⟩ | ⟨hd4, rfl, hB4⟩)
              · have hml := (enc_dt hd4).2.2
                rw [← Lib.size_eq] at hml
                have := HBS.out
                go_wp2
                go_meet
                exact ⟨hy.go hB4, upB hW3 hB4, .inl ⟨m, A4, m.length, c4, rfl, rfl, Lib.hid rfl, Lib.hid hd4, by omega, hr4⟩⟩
              · go_wp2
                go_meet
                exact ⟨hy.go hB4, upB hW3 hB4, .inr ⟨rfl, rfl, Lib.hid hd4⟩⟩
            case rest =>
              clear hy hW3
              obtain ⟨hy, hW3, hor⟩ := hcut
              by_cases hsign : (97 ≤ c ∧ c ≤ 122) ∨ (48 ≤ c ∧ c ≤ 57)
              · go_upto_region 14 with fail
                go_cut [109] from 96 (fun s109 wx => s109 = .bool true ∧ wx = wc)
                case first =>
                  rcases hsign with ⟨g1, g2⟩ | ⟨g1, g2⟩
                  · go_wp2_with fail
                    go_meet
                    exact ⟨rfl, rfl⟩
                  · have g3 : ¬ 97 ≤ c := by omega
                    have g4 : c < 97 := by omega
                    go_wp2_with fail
                    go_meet
                    exact ⟨rfl, rfl⟩
                case rest =>
                  obtain ⟨rfl, hwc⟩ := hcut
                  rw [hwc]
                  clear hwc
                  rcases hor with ⟨m, A4, nm, c4, rfl, rfl, HNM, HDM, hnm, hr4⟩ | ⟨rfl, rfl, HDM⟩
                  · have heq := same_text HYS.out HS.out HDM.out
                    obtain ⟨E, hE⟩ : ∃ E, decide (m = Y) = E := ⟨_, rfl⟩
                    rw [hE] at heq
                    have hEE : (E == E) = true := by cases E <;> rfl
                    go_wp2_with fail
                    refine (SameN_any m Y _ _ _ _ _ _ _ HNM.out HYL.out (by omega) (by omega) hr4 hy).mono ?_
                    rw [hE]
                    rintro e w5 ⟨rfl, hB5⟩
                    have hW5 := upB hW3 hB5
                    go_wp2_with fail
                    refine (awake_any _).mono ?_
                    rintro e w9 ⟨rfl, hB9⟩
                    go_wp2
                    go_ret
                    exact ⟨rfl, upB hW5 hB9⟩
                  · have heq := none_text HYS.out HS.out HDM.out
                    go_wp2_with fail
                    refine (awake_any _).mono ?_
                    rintro e w9 ⟨rfl, hB9⟩
                    go_wp2
                    go_ret
                    exact ⟨rfl, upB hW3 hB9⟩
              · have hs1 : ¬ (97 ≤ c ∧ c ≤ 122) := fun h => hsign (.inl h)
                have hs2 : ¬ (48 ≤ c ∧ c ≤ 57) := fun h => hsign (.inr h)
                have HWN := Lib.hid (worth_none hc0 hc1 hs1 hs2)
                go_upto_region 14 with fail
                go_cut [109] from 96 (fun s109 wx => s109 = .bool false ∧ wx = wc)
                case first =>
                  by_cases g1 : 97 ≤ c
                  · have g2 : ¬ c ≤ 122 := by omega
                    have g3 : 48 ≤ c := by omega
                    have g4 : ¬ c ≤ 57 := by omega
                    go_wp2_with fail
                    go_meet
                    exact ⟨rfl, rfl⟩
                  · by_cases g3 : 48 ≤ c
                    · have g4 : ¬ c ≤ 57 := by omega
                      go_wp2_with fail
                      go_meet
                      exact ⟨rfl, rfl⟩
                    · go_wp2_with fail
                      go_meet
                      exact ⟨rfl, rfl⟩
                case rest =>
                  obtain ⟨rfl, hwc⟩ := hcut
                  rw [hwc]
                  clear hwc
                  by_cases h45 : c = 45
                  · subst h45
                    go_wp2_with fail
                    refine (awake_any _).mono ?_
                    rintro e w9 ⟨rfl, hB9⟩
                    go_wp2
                    go_ret
                    exact ⟨rfl, upB hW3 hB9⟩
                  · have h45b : (c == 45) = false := by simp [h45]
                    have hbad : dt bad.data.toList = none := by rw [HBD.out]; exact bad_one (by rw [HT.out]; exact hqT) HWN.out (ne45 hc0 hc1 h45)
                    rcases hor with ⟨m, A4, nm, c4, rfl, rfl, HNM, HDM, hnm, hr4⟩ | ⟨rfl, rfl, HDM⟩
                    · have := HDM.out; rw [hbad] at this; cases this
                    · clear hbad
                      go_wp2_with fail
                      refine (awake_any _).mono ?_
                      rintro e w9 ⟨rfl, hB9⟩
                      go_wp2
                      go_ret
                      exact ⟨rfl, upB hW3 hB9⟩

theorem walk (a0 : Option Addr) (len0 cap0 : Nat) (z0 : List Int) (a1 a2 : Int) (w : World) (w0 : InRow .i32 w a0 len0 cap0 z0) (w1 : (Lit.int .u16 a1).wf = true) (w2 : (Lit.int .u8 a2).wf = true) :
    Calls Try.prog 6 #[.slice a0 len0 cap0, .int .u16 a1, .int .u8 a2] w (IsB true w) := by
  obtain ⟨e0, g0, m0, r0, _⟩ := w0
  have h1 := wf_u16 w1
  have h2 := wf_u8 w2
  unfold maxLen at m0
  by_cases h : 300 < len0
  · exact walkLong a0 len0 cap0 a1 a2 w h (by omega)
  · exact walkShort z0 a0 len0 cap0 a1 a2 w (by omega) h1.1 h1.2 h2.1 h2.2 e0 r0

/-! From the walk to the given statement. -/
set_option linter.unusedVariables false
theorem own : ownKnob Try.prog.godebug = none := by kernel_rfl
theorem laidOut : laidOutB Try.prog = true := by kernel_rfl
set_option maxRecDepth 100000 in
theorem lifted (os : Os) (started : os.Started) (H : Type) (enc : TypeId × Value → H) :
    ReturnsInHanded {} Try.checked os 6 .any (Rows.punyCutSpec.pre6 enc Try.prog Try.f6 Rows.punyCutRow.domain false) (Rows.punyCutSpec.post enc Try.prog Try.f6 false true false false) := by
  refine returnsInHanded_of_change (C := Try.checked) own started (by kernel_rfl) Try.func6
    (ChangeSpec.witness6 (enc := enc) (C := Try.checked) false ⟨#[], #[.slice none 0 0, .int .u16 0, .int .u8 0], []⟩ 8 (by kernel_rfl) (by kernel_rfl) (by kernel_rfl) (by kernel_rfl)) ?_
  intro W base args ds gs before hval0 hW hcnd _
  have hval : ∀ (j : Nat) t v, Try.f6.params[j]? = some t → args[j]? = some v → Value.okWide Try.prog W .any base t v := hval0
  have hW' := hW
  obtain ⟨p, q, hA0, hV, rfl, hfz, hnd⟩ := hW
  have hA : DataW.TrodAll enc Try.prog W 0 (fun _ => true) true Try.f6.params.toList args.toList ds p := hA0
  rw [Try.params6] at hA hval
  obtain ⟨v0, vs0, d0, ds0, p0, q0, hargs, rfl, rfl, h0, r0⟩ := trodAll_cons hA
  obtain ⟨v1, vs1, d1, ds1, p1, q1, rfl, rfl, rfl, h1, r1⟩ := trodAll_cons r0
  obtain ⟨v2, vs2, d2, ds2, p2, q2, rfl, rfl, rfl, h2, r2⟩ := trodAll_cons r1
  obtain ⟨rfl, rfl, rfl⟩ := trodAll_nil r2
  obtain rfl : args = #[v0, v1, v2] := by cases args; simp_all
  obtain ⟨rfl, rfl⟩ := trodVars_none hV
  obtain ⟨a0, len0, cap0, rfl⟩ := okWide_slice Try.underlying22 (hval 0 22 v0 rfl rfl)
  have k0 := h0
  have lt0 : ∀ x ∈ p0, x.block < W.heap.size := by obtain ⟨m, hm⟩ := k0; exact DataW.trod_lt m _ _ _ hm
  obtain ⟨z0, w0⟩ := in_row Try.underlying22 Try.underlying21 (by kernel_rfl) h0
  obtain ⟨a1, rfl, rfl, rfl, w1⟩ := open_int Try.underlying36 (hval 1 36 v1 rfl rfl) h1
  obtain ⟨a2, rfl, rfl, rfl, w2⟩ := open_int Try.underlying5 (hval 2 5 v2 rfl rfl) h2
  clear hA0 hval0
  refine (walk a0 len0 cap0 z0 a1 a2 W w0 w1 w2).mono fun e W' ⟨he, bel⟩ => ?_
  subst he
  exact ⟨_, rfl, _, _, _, [], _, [], hW', trodAll_mk1 (shut_bool Try.underlying4 _), (trodAll_cons_mk (Below.trod laidOut (by kernel_rfl) (of_decide_eq_true (by kernel_rfl)) k0 bel lt0) (trodAll_cons_mk (shut_int Try.underlying36 w1) (trodAll_cons_mk (shut_int Try.underlying5 w2) trodAll_mk0))), rfl, bel.frame _, fun h => by cases h⟩

theorem proved : Rows.PunyCutSaid :=
  OpenClaim.holds_of_wide 6 Try.f6 rfl rfl rfl rfl rfl rfl rfl ⟨rfl, rfl, rfl, rfl, rfl⟩ rfl rfl rfl rfl rfl (by kernel_rfl) Try.func6 (by kernel_rfl)
    (of_decide_eq_true (by kernel_rfl)) (by unfold Func.isWrapper; first | (rw [if_pos (by decide +kernel)]; kernel_rfl) | (rw [if_neg (by decide +kernel)]; exact ⟨rfl, rfl⟩))
    (fun os started H enc _ => lifted os started H enc)
end Go.Proofs.Ytcdjjodiiaahfaa.punyCut
