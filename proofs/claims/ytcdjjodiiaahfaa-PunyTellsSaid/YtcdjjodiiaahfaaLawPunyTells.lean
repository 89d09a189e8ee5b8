/-
  For any code points and any text: what scalars are as ASCII, and what ASCII is, is exactly as the document defines (fascialaw04.PunyTells answers true). No condition.
-/
import Derived.Test.YtcdjjodiiaahfaaPunyZB
import Derived.Test.YtcdjjodiiaahfaaPunyZE
import Derived.Test.YtcdjjodiiaahfaaFrame
namespace Go.Proofs.Ytcdjjodiiaahfaa.punyTells
open Go.ChangeShapes Go.WideShapes Go.ChangeAt Go.RowKit Puny
open Go.ChangeMaps (open_string shut_string)
open Go.Maps (Keyed)

theorem walkLong (a0 : Option Addr) (n0 c0 : Nat) (s : ByteArray) (w : World) (h : 300 < n0 ∨ 600 < s.size) (hm0 : n0 ≤ 9223372036854775807) (hm2 : s.size ≤ 9223372036854775807) :
    Calls Try.prog 3 #[.slice a0 n0 c0, .string s] w (IsB true w) := by
  by_cases h0 : 300 < n0
  · have g : decide (300 < (n0 : Int)) = true := by simp; omega
    go_enter Try.func3, Try.ntmps3
    go_wp2_with fail
    refine (awake_any _).mono ?_
    rintro e w1 ⟨rfl, hB⟩
    go_wp2
    go_ret
    exact ⟨rfl, hB⟩
  · have h2 : 600 < s.size := by omega
    have g : decide (300 < (n0 : Int)) = false := by simp; omega
    have g2 : decide (600 < (s.size : Int)) = true := by simp; omega
    go_enter Try.func3, Try.ntmps3
    go_wp2_with fail
    refine (awake_any _).mono ?_
    rintro e w1 ⟨rfl, hB⟩
    go_wp2
    go_ret
    exact ⟨rfl, hB⟩

/-- what the program tells of code points, and what the document does -/
def EncA (l : List Int) (w : World) (e : Ending) (w' : World) : Prop := ∃ a : ByteArray, a.data.toList = (if l.all isSca then encT (scs l) else []) ∧ e = .returned (.tuple #[.string a, .int .i64 (if l.all isSca then 0 else 40)]) ∧ Below w.heap.size w w'
theorem encA_prog (l : List Int) (A : Option Addr) (n c : Nat) (w : World) (hn : l.length = n) (hm : n ≤ 300) (hw : ∀ x ∈ l, -2147483648 ≤ x ∧ x ≤ 2147483647) (hr : Row w w.heap.size A (cl .i32 l)) :
    Calls Try.prog 9 #[.slice A n c] w (EncA l w) := by
  unfold EncA
  cases hs : l.all isSca with
  | true =>
    have hl2 : (scs l).length = n := by
      have := scs_full l
      rw [hs] at this
      simp at this
      omega
    exact (EncodeN_any (scs l) A n c w hl2 (by omega) (scs_sca l) (by rw [← cl_sca hs]; exact hr)).mono fun _ _ ⟨s, he, hd, hB⟩ => ⟨s, hd, he, hB⟩
  | false => exact (Encode_wrong l A n c w hn (by omega) hr hw hs).mono fun _ _ ⟨he, hB⟩ => ⟨_, rfl, he, hB⟩
theorem encA_ref (l : List Int) (A : Option Addr) (n c : Nat) (w : World) (hn : l.length = n) (hm : n ≤ 300) (hr : Row w w.heap.size A (cl .i32 l)) :
    Calls Try.prog 10 #[.slice A n c] w (EncA l w) := by
  unfold EncA
  cases hs : l.all isSca with
  | true =>
    have hl2 : (scs l).length = n := by
      have := scs_full l
      rw [hs] at this
      simp at this
      omega
    exact (rEncode_right (scs l) A n c w hl2 (by omega) (scs_sca l) (by rw [← cl_sca hs]; exact hr)).mono fun _ _ ⟨he, hB⟩ => ⟨_, bs_data _, he, hB⟩
  | false => exact (rEncode_wrong l A n c w hn (by omega) hs hr).mono fun _ _ ⟨he, hB⟩ => ⟨_, bs_data _, he, hB⟩

set_option maxRecDepth 100000 in
set_option maxHeartbeats 4000000 in
theorem walkShort (l : List Int) (s : ByteArray) (a0 : Option Addr) (n0 c0 : Nat) (w : World) (h0 : n0 ≤ 300) (h2 : s.size ≤ 600) (hl0 : l.length = n0) (hw0 : ∀ x ∈ l, -2147483648 ≤ x ∧ x ≤ 2147483647) (hr0 : Row w w.heap.size a0 (cl .i32 l)) :
    Calls Try.prog 3 #[.slice a0 n0 c0, .string s] w (IsB true w) := by
  have HN := Lib.hid hl0
  have HW := Lib.hid hw0
  clear hl0 hw0
  go_enter Try.func3, Try.ntmps3
  go_wp2_with fail
  refine (encA_prog l _ _ _ _ HN.out (by omega) HW.out hr0).mono ?_
  unfold EncA
  obtain ⟨T, hT⟩ : ∃ T, (if l.all isSca then encT (scs l) else []) = T := ⟨_, rfl⟩
  obtain ⟨K, hK⟩ : ∃ K : Int, (if l.all isSca then 0 else 40) = K := ⟨_, rfl⟩
  rw [hT, hK]
  have HT := Lib.hid hT
  have HK := Lib.hid hK
  clear hT hK
  rintro e w1 ⟨a, ha, rfl, hB1⟩
  have HA := Lib.hid ha
  have hW1 := hB1
  replace hr0 := hr0.go hB1
  clear hB1 ha
  go_wp2_with fail
  refine (encA_ref l _ _ _ _ HN.out (by omega) hr0).mono ?_
  unfold EncA
  rw [HT.out, HK.out]
  rintro e w2 ⟨b, hb, rfl, hB2⟩
  have hW2 := upB hW1 hB2
  obtain rfl : b = a := bytes_ext.2 (by rw [hb, HA.out])
  clear hB2 hW1 hr0 hb
  have hab : (b.toList == b.toList) = true := by simp
  have hkk : (K == K) = true := by simp
  go_wp2_with fail
  refine (Decode_fun s _ (by omega)).mono ?_
  rintro e w3 (⟨o, Ac, cc, hdc, rfl, hrc, hB3⟩ | ⟨hdc, rfl, hB3⟩)
  · have hW3 := upB hW2 hB3
    have HD := Lib.hid hdc
    have hol := (enc_dt hdc).2.2
    rw [← Lib.size_eq] at hol
    clear hB3 hW2 hdc
    go_wp2_with fail
    refine (rDecode_any s _ (by omega)).mono ?_
    rintro e w4 (⟨o2, Ad, cd, hdd, rfl, hrd, hB4⟩ | ⟨hdd, rfl, hB4⟩)
    · obtain rfl : o2 = o := by rw [HD.out] at hdd; exact (Option.some.inj hdd).symm
      have hW4 := upB hW3 hB4
      replace hrc := hrc.go hB4
      clear hB4 hW3 hdd
      go_wp2_with fail
      refine (SameN_any o2 o2 _ _ _ _ _ _ _ rfl rfl (by omega) (by omega) hrc hrd).mono ?_
      rw [decide_eq_true rfl]
      rintro e w5 ⟨rfl, hB5⟩
      have hW5 := upB hW4 hB5
      clear hB5 hW4
      go_wp2_with fail
      refine (awake_any _).mono ?_
      rintro e w6 ⟨rfl, hB6⟩
      go_wp2
      go_ret
      exact ⟨rfl, upB hW5 hB6⟩
    · rw [HD.out] at hdd; cases hdd
  · have hW3 := upB hW2 hB3
    have HD := Lib.hid hdc
    clear hB3 hW2 hdc
    go_wp2_with fail
    refine (rDecode_any s _ (by omega)).mono ?_
    rintro e w4 (⟨o2, Ad, cd, hdd, rfl, hrd, hB4⟩ | ⟨hdd, rfl, hB4⟩)
    · rw [HD.out] at hdd; cases hdd
    · have hW4 := upB hW3 hB4
      clear hB4 hW3 hdd
      go_wp2_with fail
      refine (SameN_any [] [] none none 0 0 0 0 _ rfl rfl (by omega) (by omega) Row.empty Row.empty).mono ?_
      rw [decide_eq_true rfl]
      rintro e w5 ⟨rfl, hB5⟩
      have hW5 := upB hW4 hB5
      clear hB5 hW4
      go_wp2_with fail
      refine (awake_any _).mono ?_
      rintro e w6 ⟨rfl, hB6⟩
      go_wp2
      go_ret
      exact ⟨rfl, upB hW5 hB6⟩

theorem walk (a0 : Option Addr) (len0 cap0 : Nat) (z0 : List Int) (a1 : ByteArray) (w : World) (w0 : InRow .i32 w a0 len0 cap0 z0) (w1 : a1.size ≤ maxLen) :
    Calls Try.prog 3 #[.slice a0 len0 cap0, .string a1] w (IsB true w) := by
  obtain ⟨e0, g0, m0, r0, f0⟩ := w0
  unfold maxLen at m0 w1
  by_cases h : 300 < len0 ∨ 600 < a1.size
  · exact walkLong a0 len0 cap0 a1 w h (by omega) (by omega)
  · exact walkShort z0 a1 a0 len0 cap0 w (by omega) (by omega) e0 (fun x hx => wf_i32 (f0 x hx)) r0

/-! From the walk to the given statement. -/
set_option linter.unusedVariables false
theorem own : ownKnob Try.prog.godebug = none := by kernel_rfl
theorem laidOut : laidOutB Try.prog = true := by kernel_rfl
set_option maxRecDepth 100000 in
theorem lifted (os : Os) (started : os.Started) (H : Type) (enc : TypeId × Value → H) :
    ReturnsInHanded {} Try.checked os 3 .any (Rows.punyTellsSpec.pre6 enc Try.prog Try.f3 Rows.punyTellsRow.domain false) (Rows.punyTellsSpec.post enc Try.prog Try.f3 false true false false) := by
  refine returnsInHanded_of_change (C := Try.checked) own started (by kernel_rfl) Try.func3
    (ChangeSpec.witness6 (enc := enc) (C := Try.checked) false ⟨#[], #[.slice none 0 0, .string .empty], []⟩ 8 (by kernel_rfl) (by kernel_rfl) (by kernel_rfl) (by kernel_rfl)) ?_
  intro W base args ds gs before hval0 hW hcnd _
  have hval : ∀ (j : Nat) t v, Try.f3.params[j]? = some t → args[j]? = some v → Value.okWide Try.prog W .any base t v := hval0
  have hW' := hW
  obtain ⟨p, q, hA0, hV, rfl, hfz, hnd⟩ := hW
  have hA : DataW.TrodAll enc Try.prog W 0 (fun _ => true) true Try.f3.params.toList args.toList ds p := hA0
  rw [Try.params3] at hA hval
  obtain ⟨v0, vs0, d0, ds0, p0, q0, hargs, rfl, rfl, h0, r0⟩ := trodAll_cons hA
  obtain ⟨v1, vs1, d1, ds1, p1, q1, rfl, rfl, rfl, h1, r1⟩ := trodAll_cons r0
  obtain ⟨rfl, rfl, rfl⟩ := trodAll_nil r1
  obtain rfl : args = #[v0, v1] := by cases args; simp_all
  obtain ⟨rfl, rfl⟩ := trodVars_none hV
  obtain ⟨a0, len0, cap0, rfl⟩ := okWide_slice Try.underlying22 (hval 0 22 v0 rfl rfl)
  have k0 := h0
  have lt0 : ∀ x ∈ p0, x.block < W.heap.size := by obtain ⟨m, hm⟩ := k0; exact DataW.trod_lt m _ _ _ hm
  obtain ⟨z0, w0⟩ := in_row Try.underlying22 Try.underlying21 (by kernel_rfl) h0
  obtain ⟨a1, rfl, rfl, rfl, w1⟩ := open_string Try.underlying9 (hval 1 9 v1 rfl rfl) h1
  clear hA0 hval0
  refine (walk a0 len0 cap0 z0 a1 W w0 w1).mono fun e W' ⟨he, bel⟩ => ?_
  subst he
  exact ⟨_, rfl, _, _, _, [], _, [], hW', trodAll_mk1 (shut_bool Try.underlying4 _), (trodAll_cons_mk (Below.trod laidOut (by kernel_rfl) (of_decide_eq_true (by kernel_rfl)) k0 bel lt0) (trodAll_cons_mk (shut_string Try.underlying9 w1) trodAll_mk0)), rfl, bel.frame _, fun h => by cases h⟩

theorem proved : Rows.PunyTellsSaid :=
  OpenClaim.holds_of_wide 3 Try.f3 rfl rfl rfl rfl rfl rfl rfl ⟨rfl, rfl, rfl, rfl, rfl⟩ rfl rfl rfl rfl rfl (by kernel_rfl) Try.func3 (by kernel_rfl)
    (of_decide_eq_true (by kernel_rfl)) (by unfold Func.isWrapper; first | (rw [if_pos (by decide +kernel)]; kernel_rfl) | (rw [if_neg (by decide +kernel)]; exact ⟨rfl, rfl⟩))
    (fun os started H enc _ => lifted os started H enc)
end Go.Proofs.Ytcdjjodiiaahfaa.punyTells
