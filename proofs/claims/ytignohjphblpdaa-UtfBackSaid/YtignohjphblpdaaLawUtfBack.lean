/-
  For any code points and any bytes: scalars encoded are valid and decoded as they were; bytes decoded and encoded are as they were just if they are valid (fascialaw01.UtfBack answers true). No condition.
-/
import Derived.Test.YtignohjphblpdaaAwake1
import Derived.Test.YtignohjphblpdaaFrame
import Derived.Test.YtignohjphblpdaaUtfMath4
namespace Go.Proofs.Ytignohjphblpdaa.utfBack
open Go.ChangeShapes Go.WideShapes Go.ChangeAt Go.RowKit Utf
open Go.ChangeMaps (open_string shut_string)

set_option maxHeartbeats 1000000 in
theorem walkLong (a0 a1 : Option Addr) (n0 c0 n1 c1 : Nat) (w : World) (h : 300 < n0 ∨ 500 < n1) (hm0 : n0 ≤ 9223372036854775807) (hm1 : n1 ≤ 9223372036854775807) :
    Calls Try.prog 4 #[.slice a0 n0 c0, .slice a1 n1 c1] w (IsBool true w) := by
  by_cases h0 : 300 < n0
  · have g : decide (300 < (n0 : Int)) = true := by simp; omega
    go_enter Try.func4, Try.ntmps4
    go_wp2_with fail
    refine (awake_any _).mono ?_
    rintro e w1 ⟨rfl, hB⟩
    go_wp2
    go_ret
    exact ⟨rfl, hB⟩
  · have h1 : 500 < n1 := by omega
    go_enter Try.func4, Try.ntmps4
    go_wp2_with fail
    refine (awake_any _).mono ?_
    rintro e w1 ⟨rfl, hB⟩
    go_wp2
    go_ret
    exact ⟨rfl, hB⟩

def WRel (l : List Int) (w : World) (o i : Value) (wr : World) : Prop :=
  ∃ k : Nat, k ≤ l.length ∧ i = .int .i64 k ∧ wr.ownsRow w.heap.size 21 1 o k (cl .i32 ((l.take k).map fixR)) ∧ Below w.heap.size w wr

set_option maxHeartbeats 2000000 in
theorem walkShort (l b : List Int) (a0 a1 : Option Addr) (n0 c0 n1 c1 : Nat) (w : World) (h0 : n0 ≤ 300) (h1 : n1 ≤ 500) (hl0 : l.length = n0) (hl1 : b.length = n1) (hc1 : n1 ≤ c1) (hb : Byt b)
    (hr0 : Row w w.heap.size a0 (cl .i32 l)) (hr1 : Row w w.heap.size a1 (cl .u8 b)) :
    Calls Try.prog 4 #[.slice a0 n0 c0, .slice a1 n1 c1] w (IsBool true w) := by
  obtain ⟨i0, hi, hz0, hz1, hz2⟩ := info_parts info_i32
  have HN := Lib.hid hl0
  have HM := Lib.hid hl1
  clear hl0 hl1
  go_enter Try.func4, Try.ntmps4
  go_wp2
  go_loopw [5, 21] (fun o i wr => WRel l w o i wr) (fun _ i _ => n0 - (intOf i).toNat)
  case atStart => exact ⟨0, Nat.zero_le _, rfl, World.ownsRow_nil _ _ _ _, Below.refl _ _⟩
  case round =>
    obtain ⟨k, hk, rfl, hown, hB⟩ := hrel
    rw [HN.out] at hk
    by_cases hlt : k < n0
    · have hkl : k < l.length := by rw [HN.out]; exact hlt
      obtain ⟨bb, off, rfl, hbb, hc⟩ := (hr0.below hB).at_ (by simp; omega)
      have hcell := hc k (by simp; omega)
      rw [cl_get _ _ _ hkl] at hcell
      have hsz := hB.size
      obtain ⟨r, hr⟩ : ∃ r, l[k] = r := ⟨_, rfl⟩
      rw [hr] at hcell
      have HT : Hid (cl .i32 ((l.take (k + 1)).map fixR) = cl .i32 ((l.take k).map fixR) ++ [.int .i32 (fixR r)]) := Lib.hid (by
        rw [List.take_succ_eq_append_getElem hkl, hr]; simp)
      have HC := Lib.hid hc
      have HR := Lib.hid hr0
      have HR1 := Lib.hid hr1
      clear hc hr0 hr1 hr
      cases hs : sca r with
      | true =>
        have HS := Lib.hid hs
        have HF := Lib.hid (fix_of_sca hs)
        clear hs
        go_wp2_with (first
          | (go_at_call 10; refine (Scalar_yes _ HS.out).mono ?_; rintro e w' ⟨rfl, rfl⟩)
          | (at_builtin; refine wpList_append_own_at _ rfl _ _ 23 rfl w.heap.size 21 i0 (.int .i32 0) 1 4 Try.underlying23 hi hz0 hz1 hz2 rfl (by decide) _ _ _ rfl (hown.alloc _) ⟨wr.heap.size, 0, none⟩ 1 1 _ rfl (by rfl) (news_new _ _ _ _ rfl) (by simp [Value.oneCell']) (by unfold maxLen; omega) (by omega) (by simp; omega) ?_; intro v' w1 hown1 hgrow1 _ _))
        go_roundw
        case rel => exact ⟨k + 1, by omega, by go_num, by rw [HT.out, HF.out]; exact hown1, (hB.alloc hsz _).grown hgrow1 (by simp; omega) (fun j e => (hown.lt j e).1)⟩
        case measure => simp [intOf]; omega
      | false =>
        have HS := Lib.hid hs
        have HF : Hid (fixR r = 65533) := Lib.hid (by simp [fixR, hs])
        clear hs
        go_wp2_with (first
          | (go_at_call 10; refine (Scalar_no _ HS.out).mono ?_; rintro e w' ⟨rfl, rfl⟩)
          | (at_builtin; refine wpList_append_own_at _ rfl _ _ 23 rfl w.heap.size 21 i0 (.int .i32 0) 1 4 Try.underlying23 hi hz0 hz1 hz2 rfl (by decide) _ _ _ rfl (hown.alloc _) ⟨wr.heap.size, 0, none⟩ 1 1 _ rfl (by rfl) (news_new _ _ _ _ rfl) (by simp [Value.oneCell']) (by unfold maxLen; omega) (by omega) (by simp; omega) ?_; intro v' w1 hown1 hgrow1 _ _))
        go_roundw
        case rel => exact ⟨k + 1, by omega, by go_num, by rw [HT.out, HF.out]; exact hown1, (hB.alloc hsz _).grown hgrow1 (by simp; omega) (fun j e => (hown.lt j e).1)⟩
        case measure => simp [intOf]; omega
    · obtain rfl : k = n0 := by omega
      rw [List.take_of_length_le (by rw [HN.out]; omega)] at hown
      obtain ⟨Aw, cw, rfl, _, hrw⟩ := own_form hown
      have HB := Lib.hid hb
      have r0 := hr0.go hB
      have r1 := hr1.go hB
      clear hr0 hr1 hown hb
      go_wp2_with fail
      refine (Encode_out l _ _ _ _ HN.out (by omega) r0).mono ?_
      rintro e w1 ⟨A1, d1, rfl, hd1, s1, hB1⟩
      replace hrw := hrw.go hB1
      replace r1 := r1.go hB1
      have hW1 := upB hB hB1
      clear hB1 r0 hB
      go_wp2_with fail
      refine (Decode_out b _ _ _ _ HM.out hc1 (by omega) HB.out r1).mono ?_
      rintro e w2 ⟨A2, d2, rfl, hd2, s2, hB2⟩
      replace hrw := hrw.go hB2
      replace r1 := r1.go hB2
      replace s1 := s1.go hB2
      have hW2 := upB hW1 hB2
      clear hB2 hW1
      have q2 : (dec b).length ≤ 500 := by have := codes_len b; unfold dec; rw [List.length_map]; rw [HM.out] at this; omega
      go_wp2_with fail
      refine (Encode_out (dec b) _ _ _ _ rfl (by omega) s2).mono ?_
      rintro e w3 ⟨A3, d3, rfl, hd3, s3, hB3⟩
      replace hrw := hrw.go hB3
      replace r1 := r1.go hB3
      replace s1 := s1.go hB3
      have hW3 := upB hW2 hB3
      clear hB3 hW2 s2
      have q1 := enc_len_le l
      rw [HN.out] at q1
      have q3 := enc_len_le (dec b)
      go_wp2_with fail
      refine (Valid_any (enc l) _ _ _ _ rfl hd1 (by omega) (enc_byt l) s1).mono ?_
      rw [valid_enc]
      rintro e w4 ⟨rfl, hB4⟩
      replace hrw := hrw.go hB4
      replace r1 := r1.go hB4
      replace s1 := s1.go hB4
      replace s3 := s3.go hB4
      have hW4 := upB hW3 hB4
      clear hB4 hW3
      go_wp2_with fail
      refine (Decode_out (enc l) _ _ _ _ rfl hd1 (by omega) (enc_byt l) s1).mono ?_
      rw [dec_enc, List.length_map, HN.out]
      rintro e w5 ⟨A5, d5, rfl, hd5, s5, hB5⟩
      replace hrw := hrw.go hB5
      replace r1 := r1.go hB5
      replace s3 := s3.go hB5
      have hW5 := upB hW4 hB5
      clear hB5 hW4 s1
      go_wp2_with fail
      refine (Runes_any (l.map fixR) (l.map fixR) _ _ _ _ _ _ _ (by rw [List.length_map, HN.out]) (by rw [List.length_map, HN.out]) (by omega) (by omega) s5 hrw).mono ?_
      rw [decide_eq_true rfl]
      rintro e w6 ⟨rfl, hB6⟩
      replace r1 := r1.go hB6
      replace s3 := s3.go hB6
      have hW6 := upB hW5 hB6
      clear hB6 hW5 s5 hrw
      go_wp2_with fail
      refine (Same_any (enc (dec b)) b _ _ _ _ _ _ _ rfl HM.out (enc_byt _) HB.out s3 r1).mono ?_
      rw [enc_dec_iff HB.out]
      rintro e w7 ⟨rfl, hB7⟩
      replace r1 := r1.go hB7
      replace s3 := s3.go hB7
      have hW7 := upB hW6 hB7
      clear hB7 hW6
      go_wp2_with fail
      refine (Valid_any b _ _ _ _ HM.out hc1 (by omega) HB.out r1).mono ?_
      rintro e w8 ⟨rfl, hB8⟩
      replace s3 := s3.go hB8
      have hW8 := upB hW7 hB8
      clear hB8 hW7 r1
      have heq : (valid b == valid b) = true := by simp
      go_wp2_with fail
      refine (Valid_any (enc (dec b)) _ _ _ _ rfl hd3 (by omega) (enc_byt _) s3).mono ?_
      rw [valid_enc]
      rintro e w9 ⟨rfl, hB9⟩
      have hW9 := upB hW8 hB9
      clear hB9 hW8 s3
      go_wp2_with fail
      refine (awake_any _).mono ?_
      rintro e w10 ⟨rfl, hB10⟩
      go_wp2
      go_ret
      exact ⟨rfl, upB hW9 hB10⟩

theorem walk (a0 : Option Addr) (len0 cap0 : Nat) (z0 : List Int) (a1 : Option Addr) (len1 cap1 : Nat) (z1 : List Int) (w : World) (w0 : InRow .i32 w a0 len0 cap0 z0) (w1 : InRow .u8 w a1 len1 cap1 z1) :
    Calls Try.prog 4 #[.slice a0 len0 cap0, .slice a1 len1 cap1] w (IsBool true w) := by
  obtain ⟨e0, g0, m0, r0, _⟩ := w0
  obtain ⟨e1, g1, m1, r1, f1⟩ := w1
  unfold maxLen at m0 m1
  by_cases h : 300 < len0 ∨ 500 < len1
  · exact walkLong a0 a1 len0 cap0 len1 cap1 w h (by omega) (by omega)
  · exact walkShort z0 z1 a0 a1 len0 cap0 len1 cap1 w (by omega) (by omega) e0 e1 g1 (fun x hx => wf_u8 (f1 x hx)) r0 r1

/-! From the walk to the given statement. -/
set_option linter.unusedVariables false
theorem own : ownKnob Try.prog.godebug = none := by kernel_rfl
theorem laidOut : laidOutB Try.prog = true := by kernel_rfl
set_option maxRecDepth 100000 in
theorem lifted (os : Os) (started : os.Started) (H : Type) (enc : TypeId × Value → H) :
    ReturnsInHanded {} Try.checked os 4 .any (Rows.utfBackSpec.pre6 enc Try.prog Try.f4 Rows.utfBackRow.domain false) (Rows.utfBackSpec.post enc Try.prog Try.f4 false true false false) := by
  refine returnsInHanded_of_change (C := Try.checked) own started (by kernel_rfl) Try.func4
    (ChangeSpec.witness6 (enc := enc) (C := Try.checked) false ⟨#[], #[.slice none 0 0, .slice none 0 0], []⟩ 8 (by kernel_rfl) (by kernel_rfl) (by kernel_rfl) (by kernel_rfl)) ?_
  intro W base args ds gs before hval0 hW hcnd _
  have hval : ∀ (j : Nat) t v, Try.f4.params[j]? = some t → args[j]? = some v → Value.okWide Try.prog W .any base t v := hval0
  have hW' := hW
  obtain ⟨p, q, hA0, hV, rfl, hfz, hnd⟩ := hW
  have hA : DataW.TrodAll enc Try.prog W 0 (fun _ => true) true Try.f4.params.toList args.toList ds p := hA0
  rw [Try.params4] at hA hval
  obtain ⟨v0, vs0, d0, ds0, p0, q0, hargs, rfl, rfl, h0, r0⟩ := trodAll_cons hA
  obtain ⟨v1, vs1, d1, ds1, p1, q1, rfl, rfl, rfl, h1, r1⟩ := trodAll_cons r0
  obtain ⟨rfl, rfl, rfl⟩ := trodAll_nil r1
  obtain rfl : args = #[v0, v1] := by cases args; simp_all
  obtain ⟨rfl, rfl⟩ := trodVars_none hV
  obtain ⟨a0, len0, cap0, rfl⟩ := okWide_slice Try.underlying23 (hval 0 23 v0 rfl rfl)
  have k0 := h0
  have lt0 : ∀ x ∈ p0, x.block < W.heap.size := by obtain ⟨m, hm⟩ := k0; exact DataW.trod_lt m _ _ _ hm
  obtain ⟨z0, w0⟩ := in_row Try.underlying23 Try.underlying21 (by kernel_rfl) h0
  obtain ⟨a1, len1, cap1, rfl⟩ := okWide_slice Try.underlying22 (hval 1 22 v1 rfl rfl)
  have k1 := h1
  have lt1 : ∀ x ∈ p1, x.block < W.heap.size := by obtain ⟨m, hm⟩ := k1; exact DataW.trod_lt m _ _ _ hm
  obtain ⟨z1, w1⟩ := in_row Try.underlying22 Try.underlying5 (by kernel_rfl) h1
  clear hA0 hval0
  refine (walk a0 len0 cap0 z0 a1 len1 cap1 z1 W w0 w1).mono fun e W' ⟨he, bel⟩ => ?_
  subst he
  exact ⟨_, rfl, _, _, _, [], _, [], hW', trodAll_mk1 (shut_bool Try.underlying4 _), (trodAll_cons_mk (Below.trod laidOut (by kernel_rfl) (of_decide_eq_true (by kernel_rfl)) k0 bel lt0) (trodAll_cons_mk (Below.trod laidOut (by kernel_rfl) (of_decide_eq_true (by kernel_rfl)) k1 bel lt1) trodAll_mk0)), rfl, bel.frame _, fun h => by cases h⟩

theorem proved : Rows.UtfBackSaid :=
  OpenClaim.holds_of_wide 4 Try.f4 rfl rfl rfl rfl rfl rfl rfl ⟨rfl, rfl, rfl, rfl, rfl⟩ rfl rfl rfl rfl rfl (by kernel_rfl) Try.func4 (by kernel_rfl)
    (of_decide_eq_true (by kernel_rfl)) (by unfold Func.isWrapper; first | (rw [if_pos (by decide +kernel)]; kernel_rfl) | (rw [if_neg (by decide +kernel)]; exact ⟨rfl, rfl⟩))
    (fun os started H enc _ => lifted os started H enc)
end Go.Proofs.Ytignohjphblpdaa.utfBack
