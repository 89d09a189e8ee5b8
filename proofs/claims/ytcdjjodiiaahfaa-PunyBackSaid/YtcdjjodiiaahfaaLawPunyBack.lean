/-
  For any two rows of code points and any text: what scalars are told as is told as them; unlike rows are told as unlike texts; a text that is told as some is what these are told as; who has no scalar is refused (fascialaw04.PunyBack answers true). No condition.
-/
import Derived.Test.YtcdjjodiiaahfaaPunyT
import Derived.Test.YtcdjjodiiaahfaaFrame
namespace Go.Proofs.Ytcdjjodiiaahfaa.punyBack
open Go.ChangeShapes Go.WideShapes Go.ChangeAt Go.RowKit Puny
open Go.ChangeMaps (open_string shut_string)
open Go.Maps (Keyed)

set_option maxHeartbeats 1000000 in
theorem walkLong (a0 a1 : Option Addr) (n0 c0 n1 c1 : Nat) (s : ByteArray) (w : World) (h : 300 < n0 ∨ 300 < n1 ∨ 600 < s.size) (hm0 : n0 ≤ 9223372036854775807) (hm1 : n1 ≤ 9223372036854775807) (hm2 : s.size ≤ 9223372036854775807) :
    Calls Try.prog 4 #[.slice a0 n0 c0, .slice a1 n1 c1, .string s] w (IsB true w) := by
  by_cases h0 : 300 < n0
  · have g : decide (300 < (n0 : Int)) = true := by simp; omega
    go_enter Try.func4, Try.ntmps4
    go_wp2_with fail
    refine (awake_any _).mono ?_
    rintro e w1 ⟨rfl, hB⟩
    go_wp2
    go_ret
    exact ⟨rfl, hB⟩
  · by_cases h1 : 300 < n1
    · have g : decide (300 < (n0 : Int)) = false := by simp; omega
      have g1 : decide (300 < (n1 : Int)) = true := by simp; omega
      go_enter Try.func4, Try.ntmps4
      go_wp2_with fail
      refine (awake_any _).mono ?_
      rintro e w1 ⟨rfl, hB⟩
      go_wp2
      go_ret
      exact ⟨rfl, hB⟩
    · have h2 : 600 < s.size := by omega
      have g : decide (300 < (n0 : Int)) = false := by simp; omega
      have g1 : decide (300 < (n1 : Int)) = false := by simp; omega
      have g2 : decide (600 < (s.size : Int)) = true := by simp; omega
      go_enter Try.func4, Try.ntmps4
      go_wp2_with fail
      refine (awake_any _).mono ?_
      rintro e w1 ⟨rfl, hB⟩
      go_wp2
      go_ret
      exact ⟨rfl, hB⟩

set_option maxHeartbeats 4000000 in
theorem walkShort (l o : List Int) (s : ByteArray) (a0 a1 : Option Addr) (n0 c0 n1 c1 : Nat) (w : World) (h0 : n0 ≤ 300) (h1 : n1 ≤ 300) (h2 : s.size ≤ 600) (hl0 : l.length = n0) (hl1 : o.length = n1)
    (hw0 : ∀ x ∈ l, -2147483648 ≤ x ∧ x ≤ 2147483647) (hr0 : Row w w.heap.size a0 (cl .i32 l)) (hr1 : Row w w.heap.size a1 (cl .i32 o)) :
    Calls Try.prog 4 #[.slice a0 n0 c0, .slice a1 n1 c1, .string s] w (IsB true w) := by
  have HN := Lib.hid hl0
  have HM := Lib.hid hl1
  have HW := Lib.hid hw0
  clear hl0 hl1 hw0
  go_enter Try.func4, Try.ntmps4
  go_wp2_with fail
  refine (EncodeZ_any l _ _ _ _ HN.out (by omega) hr0 HW.out).mono ?_
  rintro e w1 ⟨s1, k, rfl, HK, hB1⟩
  have hW1 := hB1
  replace hr0 := hr0.go hB1
  replace hr1 := hr1.go hB1
  clear hB1
  go_wp2_with fail
  refine (scalars_any l _ _ _ _ HN.out (by omega) hr0).mono ?_
  rintro e w2 ⟨v, rfl, ho, hB2⟩
  obtain ⟨A2, c2, rfl, _, _⟩ := own_form ho
  clear ho
  have hW2 := upB hW1 hB2
  replace hr0 := hr0.go hB2
  replace hr1 := hr1.go hB2
  clear hB2 hW1
  have HF : Hid ((((scs l).length : Int) == (n0 : Int)) = l.all isSca) := Lib.hid (by have := scs_full l; rwa [HN.out] at this)
  obtain ⟨B, hB⟩ : ∃ B, l.all isSca = B := ⟨_, rfl⟩
  rw [hB] at HK HF
  clear hB
  have hk := HK.out
  have hf := HF.out
  clear HK HF
  have hXl := scs_len l
  have hYl := scs_len o
  rw [HN.out] at hXl
  rw [HM.out] at hYl
  have hBB : (false != false) = false := rfl
  have HX := Lib.hid (scs_sca l)
  have HY := Lib.hid (scs_sca o)
  cases B
  all_goals
    go_wp2_with fail
    refine (scalars_any l _ _ _ _ HN.out (by omega) hr0).mono ?_
    rintro e w3 ⟨v, rfl, ho, hB3⟩
    obtain ⟨A3, c3, rfl, _, hx⟩ := own_form ho
    clear ho
    have hW3 := upB hW2 hB3
    replace hr1 := hr1.go hB3
    clear hB3 hW2 hr0
    go_wp2_with fail
    refine (scalars_any o _ _ _ _ HM.out (by omega) hr1).mono ?_
    rintro e w4 ⟨v, rfl, ho, hB4⟩
    obtain ⟨A4, c4, rfl, _, hy⟩ := own_form ho
    clear ho
    have hW4 := upB hW3 hB4
    replace hx := hx.go hB4
    clear hB4 hW3 hr1 hk hf
    obtain ⟨X, hX⟩ : ∃ X, scs l = X := ⟨_, rfl⟩
    obtain ⟨Y, hY⟩ : ∃ Y, scs o = Y := ⟨_, rfl⟩
    rw [hX] at hXl HX hx ⊢
    rw [hY] at hYl HY hy ⊢
    clear hX hY
    obtain ⟨nx, hnx⟩ : ∃ nx, X.length = nx := ⟨_, rfl⟩
    obtain ⟨ny, hny⟩ : ∃ ny, Y.length = ny := ⟨_, rfl⟩
    rw [hnx] at hXl ⊢
    rw [hny] at hYl ⊢
    have HNX := Lib.hid hnx
    have HNY := Lib.hid hny
    clear hnx hny
    go_wp2_with fail
    refine (EncodeN_any X _ _ _ _ HNX.out (by omega) HX.out hx).mono ?_
    rintro e w5 ⟨s1, rfl, hs1, hB5⟩
    have HS1 := Lib.hid hs1
    have hW5 := upB hW4 hB5
    replace hx := hx.go hB5
    replace hy := hy.go hB5
    clear hB5 hW4 hs1
    go_wp2_with fail
    refine (EncodeN_any Y _ _ _ _ HNY.out (by omega) HY.out hy).mono ?_
    rintro e w6 ⟨s2, rfl, hs2, hB6⟩
    have HS2 := Lib.hid hs2
    have hW6 := upB hW5 hB6
    replace hx := hx.go hB6
    replace hy := hy.go hB6
    clear hB6 hW5 hs2
    have heq : (s1.toList == s2.toList) = decide (X = Y) := by
      rw [str_beq, decide_eq_decide, bytes_ext, HS1.out, HS2.out]
      exact enc_inj HX.out HY.out
    have HSZ : Hid (s1.size ≤ 10000) := Lib.hid (by
      rw [Lib.size_eq, HS1.out]
      exact encT_len HX.out (by rw [HNX.out]; omega))
    go_wp2_with fail
    refine (SameN_any X Y _ _ _ _ _ _ _ HNX.out HNY.out (by omega) (by omega) hx hy).mono ?_
    rintro e w7 ⟨rfl, hB7⟩
    have hW7 := upB hW6 hB7
    replace hx := hx.go hB7
    clear hB7 hW6 hy
    obtain ⟨E, hE⟩ : ∃ E, decide (X = Y) = E := ⟨_, rfl⟩
    rw [hE] at heq ⊢
    clear hE
    have hEE : (E != E) = false := by cases E <;> rfl
    go_wp2_with fail
    refine (Decode_fun s1 _ HSZ.out).mono ?_
    have HD : Hid (dt s1.data.toList = some X) := Lib.hid (by rw [HS1.out]; exact dt_enc HX.out)
    rintro e w8 (⟨out, A8, c8, hd, rfl, hr8, hB8⟩ | ⟨hd, rfl, hB8⟩)
    · obtain rfl : out = X := by rw [HD.out] at hd; exact (Option.some.inj hd).symm
      have hW8 := upB hW7 hB8
      replace hx := hx.go hB8
      clear hB8 hW7 hd heq hEE
      go_wp2_with fail
      refine (SameN_any out out _ _ _ _ _ _ _ rfl HNX.out (by rw [HNX.out]; omega) (by omega) hr8 hx).mono ?_
      rw [decide_eq_true rfl]
      rintro e w9 ⟨rfl, hB9⟩
      have hW9 := upB hW8 hB9
      clear hB9 hW8 hx hr8
      go_wp2_with fail
      refine (Decode_fun s _ (by omega)).mono ?_
      rintro e w10 (⟨c, Ac, cc, hdc, rfl, hrc, hB10⟩ | ⟨hdc, rfl, hB10⟩)
      · have hW10 := upB hW9 hB10
        obtain ⟨q1, q2, q3⟩ := enc_dt hdc
        rw [← Lib.size_eq] at q3
        have HQ := Lib.hid q1
        have HQ2 := Lib.hid q2
        clear hB10 hW9 hdc q1 q2
        obtain ⟨nc, hnc⟩ : ∃ nc, c.length = nc := ⟨_, rfl⟩
        rw [hnc] at q3 ⊢
        have HNC := Lib.hid hnc
        clear hnc
        go_wp2_with fail
        refine (EncodeN_any c _ _ _ _ HNC.out (by omega) HQ2.out hrc).mono ?_
        rintro e w11 ⟨s3, rfl, hs3, hB11⟩
        obtain rfl : s3 = s := bytes_ext.2 (by rw [hs3, HQ.out])
        have hW11 := upB hW10 hB11
        clear hB11 hW10 hs3
        have hne : (s3.toList == s3.toList) = true := by simp
        have hne2 : (s3.toList != s3.toList) = false := by simp
        go_wp2_with fail
        refine (awake_any _).mono ?_
        rintro e w12 ⟨rfl, hB12⟩
        go_wp2
        go_ret
        exact ⟨rfl, upB hW11 hB12⟩
      · have hW10 := upB hW9 hB10
        clear hB10 hW9 hdc
        go_wp2_with fail
        refine (awake_any _).mono ?_
        rintro e w12 ⟨rfl, hB12⟩
        go_wp2
        go_ret
        exact ⟨rfl, upB hW10 hB12⟩
    · rw [HD.out] at hd; cases hd

theorem walk (a0 : Option Addr) (len0 cap0 : Nat) (z0 : List Int) (a1 : Option Addr) (len1 cap1 : Nat) (z1 : List Int) (a2 : ByteArray) (w : World) (w0 : InRow .i32 w a0 len0 cap0 z0) (w1 : InRow .i32 w a1 len1 cap1 z1) (w2 : a2.size ≤ maxLen) :
    Calls Try.prog 4 #[.slice a0 len0 cap0, .slice a1 len1 cap1, .string a2] w (IsB true w) := by
  obtain ⟨e0, g0, m0, r0, f0⟩ := w0
  obtain ⟨e1, g1, m1, r1, _⟩ := w1
  unfold maxLen at m0 m1 w2
  by_cases h : 300 < len0 ∨ 300 < len1 ∨ 600 < a2.size
  · exact walkLong a0 a1 len0 cap0 len1 cap1 a2 w h (by omega) (by omega) (by omega)
  · exact walkShort z0 z1 a2 a0 a1 len0 cap0 len1 cap1 w (by omega) (by omega) (by omega) e0 e1 (fun x hx => wf_i32 (f0 x hx)) r0 r1

/-! From the walk to the given statement. -/
set_option linter.unusedVariables false
theorem own : ownKnob Try.prog.godebug = none := by kernel_rfl
theorem laidOut : laidOutB Try.prog = true := by kernel_rfl
set_option maxRecDepth 100000 in
theorem lifted (os : Os) (started : os.Started) (H : Type) (enc : TypeId × Value → H) :
    ReturnsInHanded {} Try.checked os 4 .any (Rows.punyBackSpec.pre6 enc Try.prog Try.f4 Rows.punyBackRow.domain false) (Rows.punyBackSpec.post enc Try.prog Try.f4 false true false false) := by
  refine returnsInHanded_of_change (C := Try.checked) own started (by kernel_rfl) Try.func4
    (ChangeSpec.witness6 (enc := enc) (C := Try.checked) false ⟨#[], #[.slice none 0 0, .slice none 0 0, .string .empty], []⟩ 8 (by kernel_rfl) (by kernel_rfl) (by kernel_rfl) (by kernel_rfl)) ?_
  intro W base args ds gs before hval0 hW hcnd _
  have hval : ∀ (j : Nat) t v, Try.f4.params[j]? = some t → args[j]? = some v → Value.okWide Try.prog W .any base t v := hval0
  have hW' := hW
  obtain ⟨p, q, hA0, hV, rfl, hfz, hnd⟩ := hW
  have hA : DataW.TrodAll enc Try.prog W 0 (fun _ => true) true Try.f4.params.toList args.toList ds p := hA0
  rw [Try.params4] at hA hval
  obtain ⟨v0, vs0, d0, ds0, p0, q0, hargs, rfl, rfl, h0, r0⟩ := trodAll_cons hA
  obtain ⟨v1, vs1, d1, ds1, p1, q1, rfl, rfl, rfl, h1, r1⟩ := trodAll_cons r0
  obtain ⟨v2, vs2, d2, ds2, p2, q2, rfl, rfl, rfl, h2, r2⟩ := trodAll_cons r1
  obtain ⟨rfl, rfl, rfl⟩ := trodAll_nil r2
  obtain rfl : args = #[v0, v1, v2] := by cases args; simp_all
  obtain ⟨rfl, rfl⟩ := trodVars_none hV
  obtain ⟨a0, len0, cap0, rfl⟩ := okWide_slice Try.underlying22 (hval 0 22 v0 rfl rfl)
  have k0 := h0
  have lt0 : ∀ x ∈ p0, x.block < W.heap.size := by obtain ⟨m, hm⟩ := k0; exact DataW.trod_lt m _ _ _ hm
  obtain ⟨z0, w0⟩ := in_row Try.underlying22 Try.underlying21 (by kernel_rfl) h0
  obtain ⟨a1, len1, cap1, rfl⟩ := okWide_slice Try.underlying22 (hval 1 22 v1 rfl rfl)
  have k1 := h1
  have lt1 : ∀ x ∈ p1, x.block < W.heap.size := by obtain ⟨m, hm⟩ := k1; exact DataW.trod_lt m _ _ _ hm
  obtain ⟨z1, w1⟩ := in_row Try.underlying22 Try.underlying21 (by kernel_rfl) h1
  obtain ⟨a2, rfl, rfl, rfl, w2⟩ := open_string Try.underlying9 (hval 2 9 v2 rfl rfl) h2
  clear hA0 hval0
  refine (walk a0 len0 cap0 z0 a1 len1 cap1 z1 a2 W w0 w1 w2).mono fun e W' ⟨he, bel⟩ => ?_
  subst he
  exact ⟨_, rfl, _, _, _, [], _, [], hW', trodAll_mk1 (shut_bool Try.underlying4 _), (trodAll_cons_mk (Below.trod laidOut (by kernel_rfl) (of_decide_eq_true (by kernel_rfl)) k0 bel lt0) (trodAll_cons_mk (Below.trod laidOut (by kernel_rfl) (of_decide_eq_true (by kernel_rfl)) k1 bel lt1) (trodAll_cons_mk (shut_string Try.underlying9 w2) trodAll_mk0))), rfl, bel.frame _, fun h => by cases h⟩

theorem proved : Rows.PunyBackSaid :=
  OpenClaim.holds_of_wide 4 Try.f4 rfl rfl rfl rfl rfl rfl rfl ⟨rfl, rfl, rfl, rfl, rfl⟩ rfl rfl rfl rfl rfl (by kernel_rfl) Try.func4 (by kernel_rfl)
    (of_decide_eq_true (by kernel_rfl)) (by unfold Func.isWrapper; first | (rw [if_pos (by decide +kernel)]; kernel_rfl) | (rw [if_neg (by decide +kernel)]; exact ⟨rfl, rfl⟩))
    (fun os started H enc _ => lifted os started H enc)
end Go.Proofs.Ytcdjjodiiaahfaa.punyBack
