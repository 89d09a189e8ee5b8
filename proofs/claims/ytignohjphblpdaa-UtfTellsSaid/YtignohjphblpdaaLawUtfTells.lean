/-
  For any number, any bytes and any code points: which numbers are scalars, the codes that bytes are divided into, what is encoded and decoded, and which bytes are valid, are as the document defines (fascialaw01.UtfTells answers true). No condition.
-/
import Derived.Test.YtignohjphblpdaaUtfRefE
import Derived.Test.YtignohjphblpdaaFrame
namespace Go.Proofs.Ytignohjphblpdaa.utfTells
open Go.ChangeShapes Go.WideShapes Go.ChangeAt Go.RowKit Utf
open Go.ChangeMaps (open_string shut_string)

set_option maxHeartbeats 1000000 in
theorem walkLong (r : Int) (a0 a1 : Option Addr) (n0 c0 n1 c1 : Nat) (w : World) (h : 500 < n0 ∨ 300 < n1) (hm0 : n0 ≤ 9223372036854775807) (hm1 : n1 ≤ 9223372036854775807) :
    Calls Try.prog 3 #[.int .i32 r, .slice a0 n0 c0, .slice a1 n1 c1] w (IsBool true w) := by
  by_cases h0 : 500 < n0
  · have g : decide (500 < (n0 : Int)) = true := by simp; omega
    go_enter Try.func3, Try.ntmps3
    go_wp2_with fail
    refine (awake_any _).mono ?_
    rintro e w1 ⟨rfl, hB⟩
    go_wp2
    go_ret
    exact ⟨rfl, hB⟩
  · have h1 : 300 < n1 := by omega
    go_enter Try.func3, Try.ntmps3
    go_wp2_with fail
    refine (awake_any _).mono ?_
    rintro e w1 ⟨rfl, hB⟩
    go_wp2
    go_ret
    exact ⟨rfl, hB⟩

set_option maxHeartbeats 2000000 in
theorem walkShort (r : Int) (b l : List Int) (a0 a1 : Option Addr) (n0 c0 n1 c1 : Nat) (w : World) (h0 : n0 ≤ 500) (h1 : n1 ≤ 300) (hl0 : b.length = n0) (hl1 : l.length = n1) (hc0 : n0 ≤ c0) (hb : Byt b)
    (hr0 : Row w w.heap.size a0 (cl .u8 b)) (hr1 : Row w w.heap.size a1 (cl .i32 l)) :
    Calls Try.prog 3 #[.int .i32 r, .slice a0 n0 c0, .slice a1 n1 c1] w (IsBool true w) := by
  obtain ⟨i0, hi, hz0, hz1, hz2⟩ := info_parts info_u8
  have HN := Lib.hid hl0
  have HM := Lib.hid hl1
  have HB := Lib.hid hb
  clear hl0 hl1 hb
  have hlit := World.ownsRow_lit (base := w.heap.size) (e := 5) (size := 1) w #[] 0 (Nat.le_refl _) (Nat.zero_le _) rfl
  have hra := hr0.up (.cells #[] 5)
  have HLIT := Lib.hid hlit
  clear hlit
  go_enter Try.func3, Try.ntmps3
  go_wp2_with (first
    | (at_builtin; refine wpList_append_row _ rfl _ _ 22 rfl w.heap.size 5 i0 (.int .u8 0) 1 1 Try.underlying22 hi hz0 hz1 hz2 rfl (by decide) _ _ _ rfl HLIT.out _ _ _ _ _ rfl (by simp [HN.out]) hra (one_cl _ _) (by unfold maxLen; omega) (by omega) (by simp) ?_; intro v' w1 hown1 hgrow1)
    | fail)
  rw [Nat.zero_add] at hown1
  have hown2 : w1.ownsRow w.heap.size 5 1 v' n0 (cl .u8 b) := by simpa using hown1
  obtain ⟨Ai, ci, rfl, hci, ri⟩ := own_form hown2
  have hW1 : Below w.heap.size w w1 := ((Below.refl _ w).alloc (Nat.le_refl _) _).grown hgrow1 (by simp) (fun k e => (HLIT.out.lt k e).1)
  have r0 := hr0.go hW1
  have r1 := hr1.go hW1
  clear hown1 hown2 hgrow1 hra hr0 hr1 HLIT
  have hq1 : (sca r == sca r) = true := by simp
  have hq2 : (valid b == valid b) = true := by simp
  have hcl := codes_len b
  rw [HN.out] at hcl
  have hdl : (dec b).length ≤ 500 := by unfold dec; rw [List.length_map]; omega
  have hel := enc_len_le l
  rw [HM.out] at hel
  go_wp2_with fail
  refine (Scalar_any r _).mono ?_
  rintro e w' ⟨rfl, rfl⟩
  go_wp2_with fail
  refine (RScalar_any r _).mono ?_
  rintro e w' ⟨rfl, rfl⟩
  go_wp2_with fail
  refine (Codes_out b _ _ _ _ HN.out hci (by omega) HB.out ri).mono ?_
  rintro e w2 ⟨A2, d2, rfl, hd2, s2, hB2⟩
  replace ri := ri.go hB2
  replace r0 := r0.go hB2
  replace r1 := r1.go hB2
  have hW2 := upB hW1 hB2
  clear hB2 hW1
  go_wp2_with fail
  refine (RCodes_any b _ _ _ _ HN.out hc0 (by omega) HB.out r0).mono ?_
  rintro e w3 ⟨A3, d3, rfl, hd3, s3, hB3⟩
  replace ri := ri.go hB3
  replace r0 := r0.go hB3
  replace r1 := r1.go hB3
  replace s2 := s2.go hB3
  have hW3 := upB hW2 hB3
  clear hB3 hW2
  go_wp2_with fail
  refine (same_any ((codes b).map tri) ((codes b).map tri) _ _ _ _ _ _ _ (by rw [List.length_map]) (by rw [List.length_map]) (by omega) (by omega) s2 s3).mono ?_
  rw [decide_eq_true rfl]
  rintro e w4 ⟨rfl, hB4⟩
  replace ri := ri.go hB4
  replace r0 := r0.go hB4
  replace r1 := r1.go hB4
  replace s2 := s2.go hB4
  replace s3 := s3.go hB4
  have hW4 := upB hW3 hB4
  clear hB4 hW3 s2 s3
  go_wp2_with fail
  refine (Decode_out b _ _ _ _ HN.out hci (by omega) HB.out ri).mono ?_
  rintro e w5 ⟨A5, d5, rfl, hd5, s5, hB5⟩
  replace ri := ri.go hB5
  replace r0 := r0.go hB5
  replace r1 := r1.go hB5
  have hW5 := upB hW4 hB5
  clear hB5 hW4
  go_wp2_with fail
  refine (RDecode_any b _ _ _ _ HN.out hc0 (by omega) HB.out r0).mono ?_
  rintro e w6 ⟨A6, d6, rfl, hd6, s6, hB6⟩
  replace ri := ri.go hB6
  replace r0 := r0.go hB6
  replace r1 := r1.go hB6
  replace s5 := s5.go hB6
  have hW6 := upB hW5 hB6
  clear hB6 hW5
  go_wp2_with fail
  refine (Runes_any (dec b) (dec b) _ _ _ _ _ _ _ rfl rfl (by omega) (by omega) s5 s6).mono ?_
  rw [decide_eq_true rfl]
  rintro e w7 ⟨rfl, hB7⟩
  replace ri := ri.go hB7
  replace r0 := r0.go hB7
  replace r1 := r1.go hB7
  replace s5 := s5.go hB7
  replace s6 := s6.go hB7
  have hW7 := upB hW6 hB7
  clear hB7 hW6 s5 s6
  go_wp2_with fail
  refine (Encode_out l _ _ _ _ HM.out (by omega) r1).mono ?_
  rintro e w8 ⟨A8, d8, rfl, hd8, s8, hB8⟩
  replace ri := ri.go hB8
  replace r0 := r0.go hB8
  replace r1 := r1.go hB8
  have hW8 := upB hW7 hB8
  clear hB8 hW7
  go_wp2_with fail
  refine (REncode_any l _ _ _ _ HM.out (by omega) r1).mono ?_
  rintro e w9 ⟨A9, d9, rfl, hd9, s9, hB9⟩
  replace ri := ri.go hB9
  replace r0 := r0.go hB9
  replace r1 := r1.go hB9
  replace s8 := s8.go hB9
  have hW9 := upB hW8 hB9
  clear hB9 hW8 r1
  go_wp2_with fail
  refine (Same_any (enc l) (enc l) _ _ _ _ _ _ _ rfl rfl (enc_byt l) (enc_byt l) s8 s9).mono ?_
  rw [decide_eq_true rfl]
  rintro e w10 ⟨rfl, hB10⟩
  replace ri := ri.go hB10
  replace r0 := r0.go hB10
  replace s8 := s8.go hB10
  replace s9 := s9.go hB10
  have hW10 := upB hW9 hB10
  clear hB10 hW9 s8 s9
  go_wp2_with fail
  refine (Valid_any b _ _ _ _ HN.out hci (by omega) HB.out ri).mono ?_
  rintro e w11 ⟨rfl, hB11⟩
  replace ri := ri.go hB11
  replace r0 := r0.go hB11
  have hW11 := upB hW10 hB11
  clear hB11 hW10
  go_wp2_with fail
  refine (RValid_any b _ _ _ _ HN.out hc0 (by omega) HB.out r0).mono ?_
  rintro e w12 ⟨rfl, hB12⟩
  replace ri := ri.go hB12
  replace r0 := r0.go hB12
  have hW12 := upB hW11 hB12
  clear hB12 hW11
  go_wp2_with fail
  refine (Same_any b b _ _ _ _ _ _ _ HN.out HN.out HB.out HB.out ri r0).mono ?_
  rw [decide_eq_true rfl]
  rintro e w13 ⟨rfl, hB13⟩
  replace ri := ri.go hB13
  replace r0 := r0.go hB13
  have hW13 := upB hW12 hB13
  clear hB13 hW12 ri r0
  go_wp2_with fail
  refine (awake_any _).mono ?_
  rintro e w14 ⟨rfl, hB14⟩
  have hW14 := upB hW13 hB14
  clear hB14 hW13
  go_wp2
  go_ret
  exact ⟨rfl, hW14⟩

theorem walk (a0 : Int) (a1 : Option Addr) (len1 cap1 : Nat) (z1 : List Int) (a2 : Option Addr) (len2 cap2 : Nat) (z2 : List Int) (w : World) (_w0 : (Lit.int .i32 a0).wf = true) (w1 : InRow .u8 w a1 len1 cap1 z1) (w2 : InRow .i32 w a2 len2 cap2 z2) :
    Calls Try.prog 3 #[.int .i32 a0, .slice a1 len1 cap1, .slice a2 len2 cap2] w (IsBool true w) := by
  obtain ⟨e1, g1, m1, r1, f1⟩ := w1
  obtain ⟨e2, g2, m2, r2, _⟩ := w2
  unfold maxLen at m1 m2
  by_cases h : 500 < len1 ∨ 300 < len2
  · exact walkLong a0 a1 a2 len1 cap1 len2 cap2 w h (by omega) (by omega)
  · exact walkShort a0 z1 z2 a1 a2 len1 cap1 len2 cap2 w (by omega) (by omega) e1 e2 g1 (fun x hx => wf_u8 (f1 x hx)) r1 r2

/-! From the walk to the given statement. -/
set_option linter.unusedVariables false
theorem own : ownKnob Try.prog.godebug = none := by kernel_rfl
theorem laidOut : laidOutB Try.prog = true := by kernel_rfl
set_option maxRecDepth 100000 in
theorem lifted (os : Os) (started : os.Started) (H : Type) (enc : TypeId × Value → H) :
    ReturnsInHanded {} Try.checked os 3 .any (Rows.utfTellsSpec.pre6 enc Try.prog Try.f3 Rows.utfTellsRow.domain false) (Rows.utfTellsSpec.post enc Try.prog Try.f3 false true false false) := by
  refine returnsInHanded_of_change (C := Try.checked) own started (by kernel_rfl) Try.func3
    (ChangeSpec.witness6 (enc := enc) (C := Try.checked) false ⟨#[], #[.int .i32 0, .slice none 0 0, .slice none 0 0], []⟩ 8 (by kernel_rfl) (by kernel_rfl) (by kernel_rfl) (by kernel_rfl)) ?_
  intro W base args ds gs before hval0 hW hcnd _
  have hval : ∀ (j : Nat) t v, Try.f3.params[j]? = some t → args[j]? = some v → Value.okWide Try.prog W .any base t v := hval0
  have hW' := hW
  obtain ⟨p, q, hA0, hV, rfl, hfz, hnd⟩ := hW
  have hA : DataW.TrodAll enc Try.prog W 0 (fun _ => true) true Try.f3.params.toList args.toList ds p := hA0
  rw [Try.params3] at hA hval
  obtain ⟨v0, vs0, d0, ds0, p0, q0, hargs, rfl, rfl, h0, r0⟩ := trodAll_cons hA
  obtain ⟨v1, vs1, d1, ds1, p1, q1, rfl, rfl, rfl, h1, r1⟩ := trodAll_cons r0
  obtain ⟨v2, vs2, d2, ds2, p2, q2, rfl, rfl, rfl, h2, r2⟩ := trodAll_cons r1
  obtain ⟨rfl, rfl, rfl⟩ := trodAll_nil r2
  obtain rfl : args = #[v0, v1, v2] := by cases args; simp_all
  obtain ⟨rfl, rfl⟩ := trodVars_none hV
  obtain ⟨a0, rfl, rfl, rfl, w0⟩ := open_int Try.underlying21 (hval 0 21 v0 rfl rfl) h0
  obtain ⟨a1, len1, cap1, rfl⟩ := okWide_slice Try.underlying22 (hval 1 22 v1 rfl rfl)
  have k1 := h1
  have lt1 : ∀ x ∈ p1, x.block < W.heap.size := by obtain ⟨m, hm⟩ := k1; exact DataW.trod_lt m _ _ _ hm
  obtain ⟨z1, w1⟩ := in_row Try.underlying22 Try.underlying5 (by kernel_rfl) h1
  obtain ⟨a2, len2, cap2, rfl⟩ := okWide_slice Try.underlying23 (hval 2 23 v2 rfl rfl)
  have k2 := h2
  have lt2 : ∀ x ∈ p2, x.block < W.heap.size := by obtain ⟨m, hm⟩ := k2; exact DataW.trod_lt m _ _ _ hm
  obtain ⟨z2, w2⟩ := in_row Try.underlying23 Try.underlying21 (by kernel_rfl) h2
  clear hA0 hval0
  refine (walk a0 a1 len1 cap1 z1 a2 len2 cap2 z2 W w0 w1 w2).mono fun e W' ⟨he, bel⟩ => ?_
  subst he
  exact ⟨_, rfl, _, _, _, [], _, [], hW', trodAll_mk1 (shut_bool Try.underlying4 _), (trodAll_cons_mk (shut_int Try.underlying21 w0) (trodAll_cons_mk (Below.trod laidOut (by kernel_rfl) (of_decide_eq_true (by kernel_rfl)) k1 bel lt1) (trodAll_cons_mk (Below.trod laidOut (by kernel_rfl) (of_decide_eq_true (by kernel_rfl)) k2 bel lt2) trodAll_mk0))), rfl, bel.frame _, fun h => by cases h⟩

theorem proved : Rows.UtfTellsSaid :=
  OpenClaim.holds_of_wide 3 Try.f3 rfl rfl rfl rfl rfl rfl rfl ⟨rfl, rfl, rfl, rfl, rfl⟩ rfl rfl rfl rfl rfl (by kernel_rfl) Try.func3 (by kernel_rfl)
    (of_decide_eq_true (by kernel_rfl)) (by unfold Func.isWrapper; first | (rw [if_pos (by decide +kernel)]; kernel_rfl) | (rw [if_neg (by decide +kernel)]; exact ⟨rfl, rfl⟩))
    (fun os started H enc _ => lifted os started H enc)
end Go.Proofs.Ytignohjphblpdaa.utfTells
