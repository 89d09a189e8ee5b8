/-
  For any two code points: of two scalars the greater one has the greater bytes, and none has fewer bytes than a smaller one (fascialaw01.UtfOrder answers true). No condition.
-/
import Derived.Test.YtignohjphblpdaaAwake1
import Derived.Test.YtignohjphblpdaaFrame
import Derived.Test.YtignohjphblpdaaUtfMath3
namespace Go.Proofs.Ytignohjphblpdaa.utfOrder
open Go.ChangeShapes Go.WideShapes Go.ChangeAt Go.RowKit Utf
open Go.ChangeMaps (open_string shut_string)

set_option maxHeartbeats 1000000 in
theorem walk0 (r s : Int) (w : World) (hr : sca r = false) : Calls Try.prog 7 #[.int .i32 r, .int .i32 s] w (IsBool true w) := by
  have HR := Lib.hid hr
  clear hr
  go_enter Try.func7, Try.ntmps7
  go_wp2_with fail
  refine (Scalar_no _ HR.out).mono ?_
  rintro e w' ⟨rfl, rfl⟩
  go_wp2_with fail
  refine (awake_any _).mono ?_
  rintro e w1 ⟨rfl, hB⟩
  go_wp2
  go_ret
  exact ⟨rfl, hB⟩

set_option maxHeartbeats 1000000 in
theorem walk1 (r s : Int) (w : World) (hr : sca r = true) (hs : sca s = false) : Calls Try.prog 7 #[.int .i32 r, .int .i32 s] w (IsBool true w) := by
  have HR := Lib.hid hr
  have HS := Lib.hid hs
  clear hr hs
  go_enter Try.func7, Try.ntmps7
  go_wp2_with fail
  refine (Scalar_yes _ HR.out).mono ?_
  rintro e w' ⟨rfl, rfl⟩
  go_wp2_with fail
  refine (Scalar_no _ HS.out).mono ?_
  rintro e w' ⟨rfl, rfl⟩
  go_wp2_with fail
  refine (awake_any _).mono ?_
  rintro e w1 ⟨rfl, hB⟩
  go_wp2
  go_ret
  exact ⟨rfl, hB⟩

set_option maxHeartbeats 1000000 in
theorem walk2 (r s : Int) (w : World) (hr : sca r = true) (hs : sca s = true) : Calls Try.prog 7 #[.int .i32 r, .int .i32 s] w (IsBool true w) := by
  have HR := Lib.hid hr
  have HS := Lib.hid hs
  have HM := Lib.hid (fun h : r ≤ s => show (enc [r]).length ≤ (enc [s]).length by
    rw [enc_one, enc_one]; unfold encOne; rw [fix_of_sca hr, fix_of_sca hs]; exact b1_mono h)
  have HL := Lib.hid (str_less hr hs)
  clear hr hs
  go_enter Try.func7, Try.ntmps7
  go_wp2_with fail
  refine (Scalar_yes _ HR.out).mono ?_
  rintro e w' ⟨rfl, rfl⟩
  go_wp2_with fail
  refine (Scalar_yes _ HS.out).mono ?_
  rintro e w' ⟨rfl, rfl⟩
  go_wp2_with fail
  refine (Encode_out [r] _ 1 1 _ rfl (by omega) (row_new' w _ _ _ rfl)).mono ?_
  rintro e w1 ⟨A1, c1, rfl, hc1, hr1, hB1⟩
  have hW1 := stepB hB1
  clear hB1 hc1
  go_wp2_with fail
  refine (Encode_out [s] _ 1 1 _ rfl (by omega) (row_new' w1 _ _ _ rfl)).mono ?_
  rintro e w2 ⟨A2, c2, rfl, hc2, hr2, hB2⟩
  have hW2 := upB hW1 (stepB hB2)
  replace hr1 := hr1.go (stepB hB2)
  clear hB2 hc2 hW1
  have k1 := conv_row (c := c1) rfl hr1
  have k2 := conv_row (c := c2) rfl hr2
  have hl := HL.out
  have q1 := enc_len_le [r]
  have q2 := enc_len_le [s]
  by_cases hrs : r < s
  · have hd : decide (r < s) = true := by simpa using hrs
    have hm := HM.out (by omega)
    rw [hd] at hl
    clear hr1 hr2
    go_wp2_with fail
    refine (awake_any _).mono ?_
    rintro e w3 ⟨rfl, hB⟩
    go_wp2
    go_ret
    exact ⟨rfl, upB hW2 hB⟩
  · have hd : decide (r < s) = false := by simpa using hrs
    rw [hd] at hl
    by_cases hsr : s < r
    · clear hr1 hr2
      go_wp2_with fail
      refine (awake_any _).mono ?_
      rintro e w3 ⟨rfl, hB⟩
      go_wp2
      go_ret
      exact ⟨rfl, upB hW2 hB⟩
    · have hm := HM.out (by omega)
      clear hr1 hr2
      go_wp2_with fail
      refine (awake_any _).mono ?_
      rintro e w3 ⟨rfl, hB⟩
      go_wp2
      go_ret
      exact ⟨rfl, upB hW2 hB⟩

theorem walk (a0 a1 : Int) (w : World) (_w0 : (Lit.int .i32 a0).wf = true) (_w1 : (Lit.int .i32 a1).wf = true) :
    Calls Try.prog 7 #[.int .i32 a0, .int .i32 a1] w (IsBool true w) := by
  cases h0 : sca a0 with
  | false => exact walk0 a0 a1 w h0
  | true =>
    cases h1 : sca a1 with
    | false => exact walk1 a0 a1 w h0 h1
    | true => exact walk2 a0 a1 w h0 h1

/-! From the walk to the given statement. -/
set_option linter.unusedVariables false
theorem own : ownKnob Try.prog.godebug = none := by kernel_rfl
theorem laidOut : laidOutB Try.prog = true := by kernel_rfl
set_option maxRecDepth 100000 in
theorem lifted (os : Os) (started : os.Started) (H : Type) (enc : TypeId × Value → H) :
    ReturnsInHanded {} Try.checked os 7 .any (Rows.utfOrderSpec.pre6 enc Try.prog Try.f7 Rows.utfOrderRow.domain false) (Rows.utfOrderSpec.post enc Try.prog Try.f7 false true false false) := by
  refine returnsInHanded_of_change (C := Try.checked) own started (by kernel_rfl) Try.func7
    (ChangeSpec.witness6 (enc := enc) (C := Try.checked) false ⟨#[], #[.int .i32 0, .int .i32 0], []⟩ 8 (by kernel_rfl) (by kernel_rfl) (by kernel_rfl) (by kernel_rfl)) ?_
  intro W base args ds gs before hval0 hW hcnd _
  have hval : ∀ (j : Nat) t v, Try.f7.params[j]? = some t → args[j]? = some v → Value.okWide Try.prog W .any base t v := hval0
  have hW' := hW
  obtain ⟨p, q, hA0, hV, rfl, hfz, hnd⟩ := hW
  have hA : DataW.TrodAll enc Try.prog W 0 (fun _ => true) true Try.f7.params.toList args.toList ds p := hA0
  rw [Try.params7] at hA hval
  obtain ⟨v0, vs0, d0, ds0, p0, q0, hargs, rfl, rfl, h0, r0⟩ := trodAll_cons hA
  obtain ⟨v1, vs1, d1, ds1, p1, q1, rfl, rfl, rfl, h1, r1⟩ := trodAll_cons r0
  obtain ⟨rfl, rfl, rfl⟩ := trodAll_nil r1
  obtain rfl : args = #[v0, v1] := by cases args; simp_all
  obtain ⟨rfl, rfl⟩ := trodVars_none hV
  obtain ⟨a0, rfl, rfl, rfl, w0⟩ := open_int Try.underlying21 (hval 0 21 v0 rfl rfl) h0
  obtain ⟨a1, rfl, rfl, rfl, w1⟩ := open_int Try.underlying21 (hval 1 21 v1 rfl rfl) h1
  clear hA0 hval0
  refine (walk a0 a1 W w0 w1).mono fun e W' ⟨he, bel⟩ => ?_
  subst he
  exact ⟨_, rfl, _, _, _, [], _, [], hW', trodAll_mk1 (shut_bool Try.underlying4 _), (trodAll_cons_mk (shut_int Try.underlying21 w0) (trodAll_cons_mk (shut_int Try.underlying21 w1) trodAll_mk0)), rfl, bel.frame _, fun h => by cases h⟩

theorem proved : Rows.UtfOrderSaid :=
  OpenClaim.holds_of_wide 7 Try.f7 rfl rfl rfl rfl rfl rfl rfl ⟨rfl, rfl, rfl, rfl, rfl⟩ rfl rfl rfl rfl rfl (by kernel_rfl) Try.func7 (by kernel_rfl)
    (of_decide_eq_true (by kernel_rfl)) (by unfold Func.isWrapper; first | (rw [if_pos (by decide +kernel)]; kernel_rfl) | (rw [if_neg (by decide +kernel)]; exact ⟨rfl, rfl⟩))
    (fun os started H enc _ => lifted os started H enc)
end Go.Proofs.Ytignohjphblpdaa.utfOrder
