/-
  For any label (up to 100), any place behind its first code point, any number of marks: marks behind a label, and within, change nothing (fascialaw09.RuleMarks answers true). No condition.
-/
import Derived.Test.YtnmijmhgmcapcaaDoorRulH
import Derived.Test.YtnmijmhgmcapcaaDoorFrame
import Derived.Maps.AppendAt
import Derived.Deep.DeepCutAuto
import Derived.Test.YtnmijmhgmcapcaaDoorTie
import Derived.Test.YtnmijmhgmcapcaaDoorCards
import Derived.ProofKit
import Derived.Lay
import Derived.Stop.Joined
import Derived.SevenTiedAt
namespace Go.Proofs.YtnmijmhgmcapcaaDoor.ruleMarks
open Go.ChangeShapes Go.WideShapes Go.ChangeAt Go.RowKit Rul Ucd

theorem in_c32 {zs : List Int} (h : ∀ n ∈ zs, (Lit.int .i32 n).wf = true) : C32 zs := fun x hx => by
  have := h x hx
  simp [Lit.wf, IntKind.min, IntKind.max, IntKind.bits, IntKind.signed] at this
  omega
theorem rep_succ (X : List Value) (j : Nat) : X ++ cl .i32 (List.replicate (j + 1) 769) = X ++ cl .i32 (List.replicate j 769) ++ [.int .i32 769] := by
  rw [List.replicate_succ', cl_app, List.append_assoc]
  rfl
set_option maxRecDepth 100000 in
set_option maxHeartbeats 4000000 in
theorem walk (A : Option Addr) (n cap : Nat) (l : List Int) (a m : Int) (w : World) (hin : InRow .i32 w A n cap l) (ha0 : 0 ≤ a) (ha1 : a ≤ 255) (hm0 : 0 ≤ m) (_hm1 : m ≤ 255) : Calls Tryd.prog 5 #[.slice A n cap, .int .u8 a, .int .u8 m] w fun e w' => e = .returned (.bool true) ∧ Below w.heap.size w w' := by
  obtain ⟨hlen, hcap, _, hrow, hwf⟩ := hin
  obtain ⟨i0, hi, hzz0, hzz1, hzz2⟩ := info_split info_int32
  have HAW := Lib.hid awake9_any
  by_cases h0 : n = 0
  · subst h0
    clear hrow hlen hwf
    go_enter Tryd.func5, Tryd.ntmps5
    go_wp2_with (first | (go_at_call 12; refine (HAW.out _).mono ?_; rintro e w90 ⟨rfl, hB90⟩) | fail)
    go_ret
    exact ⟨rfl, hB90⟩
  · have hn0b : ((n : Int) == 0) = false := by simp; omega
    by_cases h100 : 100 < n
    · have h100z : (100 : Int) < (n : Int) := by omega
      clear hrow hlen hwf
      go_enter Tryd.func5, Tryd.ntmps5
      go_wp2_with (first | (go_at_call 12; refine (HAW.out _).mono ?_; rintro e w90 ⟨rfl, hB90⟩) | fail)
      go_ret
      exact ⟨rfl, hB90⟩
    · have h100z : ¬ (100 : Int) < (n : Int) := by omega
      have hn1 : n ≤ 100 := by omega
      obtain ⟨i, hi0⟩ : ∃ i : Nat, a.tmod (n : Int) = (i : Int) := ⟨(a.tmod (n : Int)).toNat, by
        have := Int.emod_nonneg a (b := (n : Int)) (by omega)
        rw [Int.tmod_eq_emod_of_nonneg ha0]; omega⟩
      have hin : i < n := by
        have := Int.emod_lt_of_pos a (b := (n : Int)) (by omega)
        rw [Int.tmod_eq_emod_of_nonneg ha0] at hi0; omega
      obtain ⟨k, hk⟩ : ∃ k : Nat, 1 + i = k := ⟨_, rfl⟩
      have hkz : (1 : Int) + (i : Int) = (k : Int) := by omega
      have hk0 : 0 < k := by omega
      have hkn : k ≤ n := by omega
      have hwa : IntKind.i64.wrap a = a := IntWalk.i64_in _ (by omega)
      obtain ⟨M, hM⟩ : ∃ M : Nat, m.tmod 20 = (M : Int) := ⟨(m.tmod 20).toNat, by rw [Int.tmod_eq_emod_of_nonneg hm0]; omega⟩
      have hM20 : M < 20 := by rw [Int.tmod_eq_emod_of_nonneg hm0] at hM; omega
      have HN := Lib.hid hlen
      have HTL : Hid ((cl .i32 (l.take k)).length = k * 1) := Lib.hid (by rw [List.length_map, List.length_take]; omega)
      have HK := Lib.hid (fun W (h : Below w.heap.size w W) => Check_any l A n cap W hlen (by omega) (upR hrow h))
      have HX := Lib.hid (fun W (h : Below w.heap.size w W) => Bidi_any l A n cap W hlen (by omega) (upR hrow h))
      have ho := own_none w w.heap.size 21 (Nat.le_refl _)
      have hrt := (row_take hrow k).alloc (Nat.le_refl _) (.cells #[] 21)
      have HR := Lib.hid hrow
      clear hlen hwf hrow hk
      go_enter Tryd.func5, Tryd.ntmps5
      go_upto_region 5 with (first
        | (at_builtin; refine wpList_append_row _ rfl _ _ 22 rfl w.heap.size 21 i0 (.int .i32 0) 1 4 Tryd.underlying22 hi hzz0 hzz1 hzz2 rfl (by decide) _ 0 [] rfl ho w.heap.size _ k cap (cl .i32 (l.take k)) rfl HTL.out hrt (one_cl _ _) (by unfold maxLen; omega) (by omega) (upA w _).size ?_; intro v1 w1 hO1 hg1; rw [Nat.zero_add, List.nil_append] at hO1; have hB1 := (upA w (.cells #[] 21)).grown hg1 (upA w _).size (fun j e => (ho.lt j e).1); obtain ⟨A1, c1, hv1, _, _⟩ := own_form hO1; subst hv1)
        | fail)
      clear hrt ho hg1
      go_wp2_with fail
      go_loopg [8, 31] M (fun mm s8 s31 wr => ∃ (j N c : Nat) (B : Option Addr), s8 = .slice B N c ∧ s31 = .int .u8 (j : Int) ∧ mm = M - j ∧ j ≤ M ∧ N ≤ 200 ∧ Hid (N = k + j) ∧ Below w.heap.size w wr ∧ wr.ownsRow w.heap.size 21 1 (.slice B N c) N (cl .i32 (l.take k) ++ cl .i32 (List.replicate j 769)))
      case atStart => exact ⟨0, k, c1, A1, rfl, rfl, rfl, Nat.zero_le _, by omega, Lib.hid rfl, hB1, by rw [show cl .i32 (List.replicate 0 769) = [] from rfl, List.append_nil]; exact hO1⟩
      case round =>
        clear hB1 hO1
        obtain ⟨j, N, c, B, rfl, rfl, rfl, hj, hN2, HNj, hB, hO⟩ := hrel
        by_cases hlt : j < M
        · have hltz : (j : Int) < (M : Int) := by omega
          have hN3 : N + 1 ≤ 200 := by have := HNj.out; omega
          go_upto_region 8 with (first
            | (at_builtin; refine wpList_append_row _ rfl _ _ 22 rfl w.heap.size 21 i0 (.int .i32 0) 1 4 Tryd.underlying22 hi hzz0 hzz1 hzz2 rfl (by decide) _ N _ rfl (hO.alloc _) _ _ 1 1 [.int .i32 769] rfl rfl (row_new _ _ _ _ rfl) (by simp [Value.oneCell']) (by unfold maxLen; omega) (by omega) (hB.alloc hB.size _).size ?_; intro v4 w4 hO4 hg4; have hB4 := (hB.alloc hB.size _).grown hg4 (hB.alloc hB.size _).size (fun j e => (hO.lt j e).1); obtain ⟨A4, c4, hv4, _, _⟩ := own_form hO4; subst hv4)
            | fail)
          go_wp2_with fail
          go_roundg (M - (j + 1))
          case measure => omega
          case rel => exact ⟨j + 1, N + 1, c4, A4, rfl, by go_num, rfl, by omega, hN3, Lib.hid (by have := HNj.out; omega), hB4, by rw [rep_succ]; exact hO4⟩
        · obtain rfl : j = M := by omega
          have hltz : ¬ ((j : Nat) : Int) < (j : Int) := by omega
          have HDL : Hid ((cl .i32 (l.drop k)).length = (n - k) * 1) := Lib.hid (by rw [List.length_map, List.length_drop, HN.out]; omega)
          have hNn : N + (n - k) ≤ 400 := by omega
          have HCE : Hid (∀ L, L = l.take k ++ List.replicate j 769 ++ l.drop k → L.length = N + (n - k) ∧ chk L = chk l ∧ bid L = bid l ∧ cl .i32 L = cl .i32 (l.take k) ++ cl .i32 (List.replicate j 769) ++ cl .i32 (l.drop k)) := Lib.hid (fun L hL => by
            refine ⟨?_, by rw [hL]; exact chk_marks hk0 (by rw [HN.out]; omega) j, by rw [hL]; exact bid_marks l k j, by rw [hL, cl_app, cl_app]⟩
            rw [hL, List.length_append, List.length_append, List.length_take, List.length_drop, List.length_replicate, HN.out, HNj.out]
            omega)
          obtain ⟨L, hL⟩ : ∃ L, L = l.take k ++ List.replicate j 769 ++ l.drop k := ⟨_, rfl⟩
          obtain ⟨HLL, HLC, HLB, HLX⟩ := HCE.out L hL
          have HLLh := Lib.hid HLL
          have HLCh := Lib.hid HLC
          have HLBh := Lib.hid HLB
          have HLXh := Lib.hid HLX
          obtain ⟨T, hT⟩ : ∃ T, N + (n - k) = T := ⟨_, rfl⟩
          have hT4 : T ≤ 400 := by omega
          have HTT := Lib.hid hT
          clear HLL HLC HLB HLX hL HCE hNn hT
          have HF : Hid (∀ (A5 : Option Addr) (c5 : Nat) (w5 : World), w5.ownsRow w.heap.size 21 1 (.slice A5 T c5) T (cl .i32 (l.take k) ++ cl .i32 (List.replicate j 769) ++ cl .i32 (l.drop k)) → ∀ W, Below w5.heap.size w5 W → Calls Tryd.prog 10 #[.slice A5 T c5] W (Tells (.int .u8 (chk l)) W) ∧ Calls Tryd.prog 8 #[.slice A5 T c5] W (IsB (bid l) W)) := Lib.hid (fun A5 c5 w5 hO5 W hW => by
            rw [← HLXh.out] at hO5
            have h1 := Check_any L A5 T c5 W (by rw [HLLh.out, HTT.out]) (by omega) (upR (own_row hO5) hW)
            have h2 := Bidi_any L A5 T c5 W (by rw [HLLh.out, HTT.out]) (by omega) (upR (own_row hO5) hW)
            rw [HLCh.out] at h1
            rw [HLBh.out] at h2
            exact ⟨h1, h2⟩)
          generalize chk l = y at HK HF
          generalize bid l = x at HX HF
          have hxx : (x == x) = true := by simp
          have hyy : (y == y) = true := by simp
          by_cases hck : cap = k
          · subst hck
            obtain rfl : n = cap := by omega
            have HD0 : Hid ((cl .i32 (l.drop n)).length = 0 * 1) := Lib.hid (by have := HDL.out; omega)
            have hck2 : (n == n) = true := by simp
            have HRD : Hid (∀ W, Row W W.heap.size A (cl .i32 (l.drop n))) := Lib.hid (fun W => .inl (List.eq_nil_of_length_eq_zero (by have := HD0.out; omega)))
            obtain rfl : N = T := by have := HTT.out; omega
            go_upto_region 10 with (first
              | (at_builtin; refine wpList_append_row _ rfl _ _ 22 rfl w.heap.size 21 i0 (.int .i32 0) 1 4 Tryd.underlying22 hi hzz0 hzz1 hzz2 rfl (by decide) _ N _ rfl hO wr.heap.size _ 0 _ (cl .i32 (l.drop n)) rfl HD0.out (HRD.out wr) (one_cl _ _) (by unfold maxLen; omega) (by omega) hB.size ?_; intro v5 w5 hO5 hg5; have hB5 := hB.grown hg5 hB.size (fun j e => (hO.lt j e).1); obtain ⟨A5, c5, hv5, _, _⟩ := own_form hO5; subst hv5)
              | fail)
            rw [Nat.add_zero] at hO5
            have HFC := Lib.hid (fun W h => (HF.out A5 c5 w5 hO5 W h).1)
            have HFB := Lib.hid (fun W h => (HF.out A5 c5 w5 hO5 W h).2)
            have hW5 : Below w5.heap.size w5 w5 := Below.refl _ _
            clear hO5 hO hg5 hB HF HDL
            go_wp2_with (first
              | (go_at_call 10; refine (HK.out _ hC6).mono ?_; rintro e w7 ⟨rfl, hB7⟩; have hC7 := upB hC6 hB7; have hW7 := upB hW6 hB7)
              | (go_at_call 10; refine (HFC.out _ hW5).mono ?_; rintro e w6 ⟨rfl, hB6⟩; have hC6 := upB hB5 hB6; have hW6 := upB hW5 hB6)
              | (go_at_call 8; refine (HX.out _ hC8).mono ?_; rintro e w9 ⟨rfl, hB9⟩; have hC9 := upB hC8 hB9)
              | (go_at_call 8; refine (HFB.out _ hW7).mono ?_; rintro e w8 ⟨rfl, hB8⟩; have hC8 := upB hC7 hB8)
              | (go_at_call 12; refine (HAW.out _).mono ?_; rintro e w90 ⟨rfl, hB90⟩)
              | fail)
            go_ret
            exact ⟨rfl, upB hC9 hB90⟩
          · have hck2 : (cap == k) = false := by simpa using hck
            have HRD := Lib.hid (row_drop (HR.out.below hB) HN.out hkn hck)
            go_upto_region 10 with (first
              | (at_builtin; refine wpList_append_row _ rfl _ _ 22 rfl w.heap.size 21 i0 (.int .i32 0) 1 4 Tryd.underlying22 hi hzz0 hzz1 hzz2 rfl (by decide) _ N _ rfl hO w.heap.size _ (n - k) _ (cl .i32 (l.drop k)) rfl HDL.out HRD.out (one_cl _ _) (by unfold maxLen; have := HTT.out; omega) (by have := HTT.out; omega) hB.size ?_; intro v5 w5 hO5 hg5; have hB5 := hB.grown hg5 hB.size (fun j e => (hO.lt j e).1); obtain ⟨A5, c5, hv5, _, _⟩ := own_form hO5; subst hv5)
              | fail)
            rw [HTT.out] at hO5
            rw [HTT.out]
            have HFC := Lib.hid (fun W h => (HF.out A5 c5 w5 hO5 W h).1)
            have HFB := Lib.hid (fun W h => (HF.out A5 c5 w5 hO5 W h).2)
            have hW5 : Below w5.heap.size w5 w5 := Below.refl _ _
            clear hO5 hO hg5 hB HF HDL
            go_wp2_with (first
              | (go_at_call 10; refine (HK.out _ hC6).mono ?_; rintro e w7 ⟨rfl, hB7⟩; have hC7 := upB hC6 hB7; have hW7 := upB hW6 hB7)
              | (go_at_call 10; refine (HFC.out _ hW5).mono ?_; rintro e w6 ⟨rfl, hB6⟩; have hC6 := upB hB5 hB6; have hW6 := upB hW5 hB6)
              | (go_at_call 8; refine (HX.out _ hC8).mono ?_; rintro e w9 ⟨rfl, hB9⟩; have hC9 := upB hC8 hB9)
              | (go_at_call 8; refine (HFB.out _ hW7).mono ?_; rintro e w8 ⟨rfl, hB8⟩; have hC8 := upB hC7 hB8)
              | (go_at_call 12; refine (HAW.out _).mono ?_; rintro e w90 ⟨rfl, hB90⟩)
              | fail)
            go_ret
            exact ⟨rfl, upB hC9 hB90⟩

/-! From the walk to the given statement. -/
set_option linter.unusedVariables false
theorem own : ownKnob Tryd.prog.godebug = none := by kernel_rfl
theorem laidOut : laidOutB Tryd.prog = true := by kernel_rfl
set_option maxRecDepth 100000 in
theorem lifted (os : Os) (started : os.Started) (H : Type) (enc : TypeId × Value → H) :
    ReturnsInHanded {} Tryd.checked os 5 .any (fun w args => (Rows.ruleMarksSpec.pre enc Tryd.prog Tryd.f5 [] false w args ∧ laidMetH Tryd.prog Rows.ruleMarksRow.laid w) ∧ sizedMet enc Tryd.prog Tryd.f5 (OpenSpec.ofChange Rows.ruleMarksSpec) false w args)
      (Rows.ruleMarksSpec.post enc Tryd.prog Tryd.f5 false true false false) := by
  refine returnsInHanded_of_change_and (C := Tryd.checked) (X := fun w _ => laidMetH Tryd.prog Rows.ruleMarksRow.laid w) (fun _ _ _ hh h => h.of_heap hh) own started (by kernel_rfl) Tryd.func5
    (ChangeSpec.witness_shaped (enc := enc) (C := Tryd.checked) (os := os) (X := fun w _ => laidMetH Tryd.prog Rows.ruleMarksRow.laid w) false (World.laidAll Tryd.prog os Rows.ruleMarksRow.laid) #[.slice none 0 0, .int .u8 0, .int .u8 0] 8 (World.laidAll_os _ _ _)
      (World.shaped_of_ZipB (by kernel_rfl) (by kernel_rfl)) (by kernel_rfl) (by kernel_rfl) (by kernel_rfl)
      (by rw [MakeChecks.laidMetH_plain _ _ _ (by kernel_rfl)]; exact laidMet_laidAll _ (by kernel_rfl) (by kernel_rfl))) ?_
  intro W base args ds gs before hval0 hW _ _ hL _
  have hval : ∀ (j : Nat) t v, Tryd.f5.params[j]? = some t → args[j]? = some v → Value.okWide Tryd.prog W .any base t v := hval0
  have hW' := hW
  obtain ⟨p, q, hA0, hV, rfl, _, _⟩ := hW
  have hA : DataW.TrodAll enc Tryd.prog W 0 (fun _ => true) true Tryd.f5.params.toList args.toList ds p := hA0
  rw [Tryd.params5] at hA hval
  obtain ⟨v0, vs0, d0, ds0, p0, q0, hargs, rfl, rfl, h0, r0⟩ := trodAll_cons hA
  obtain ⟨v1, vs1, d1, ds1, p1, q1, rfl, rfl, rfl, h1, r1⟩ := trodAll_cons r0
  obtain ⟨v2, vs2, d2, ds2, p2, q2, rfl, rfl, rfl, h2, r2⟩ := trodAll_cons r1
  obtain ⟨rfl, rfl, rfl⟩ := trodAll_nil r2
  obtain rfl : args = #[v0, v1, v2] := by cases args; simp_all
  obtain ⟨rfl, rfl⟩ := trodVars_none hV
  obtain ⟨a0, len0, cap0, rfl⟩ := okWide_slice Tryd.underlying22 (hval 0 22 v0 rfl rfl)
  have k0 := h0
  have lt0 : ∀ x ∈ p0, x.block < W.heap.size := by obtain ⟨m, hm⟩ := k0; exact DataW.trod_lt m _ _ _ hm
  obtain ⟨z0, w0⟩ := in_row Tryd.underlying22 Tryd.underlying21 (by kernel_rfl) h0
  obtain ⟨a1, rfl, rfl, rfl, w1⟩ := open_int Tryd.underlying5 (hval 1 5 v1 rfl rfl) h1
  have b1 : 0 ≤ a1 ∧ a1 ≤ 255 := by simpa [Lit.wf, IntKind.min, IntKind.max, IntKind.signed, IntKind.bits] using w1
  obtain ⟨a2, rfl, rfl, rfl, w2⟩ := open_int Tryd.underlying5 (hval 2 5 v2 rfl rfl) h2
  have b2 : 0 ≤ a2 ∧ a2 ≤ 255 := by simpa [Lit.wf, IntKind.min, IntKind.max, IntKind.signed, IntKind.bits] using w2
  clear hA0 hval0
  refine (walk a0 len0 cap0 z0 a1 a2 W w0 b1.1 b1.2 b2.1 b2.2).mono fun e W' ⟨he, bel⟩ => ?_
  subst he
  exact ⟨_, rfl, _, _, _, [], _, [], hW', trodAll_mk1 (shut_bool Tryd.underlying4 _), (trodAll_cons_mk (Below.trod laidOut (by kernel_rfl) (of_decide_eq_true (by kernel_rfl)) k0 bel lt0) (trodAll_cons_mk (shut_int Tryd.underlying5 w1) (trodAll_cons_mk (shut_int Tryd.underlying5 w2) trodAll_mk0))), rfl, bel.frame _, fun h => by cases h⟩

theorem row_holds : Rows.RuleMarksSaid :=
  OpenClaim.holds_of_wide 5 Tryd.f5 rfl rfl rfl rfl rfl rfl rfl ⟨rfl, rfl, rfl, rfl, rfl⟩ rfl rfl rfl rfl rfl (by kernel_rfl) Tryd.func5 (by kernel_rfl)
    (of_decide_eq_true (by kernel_rfl)) (by unfold Func.isWrapper; first | (rw [if_pos (by decide +kernel)]; kernel_rfl) | (rw [if_neg (by decide +kernel)]; exact ⟨rfl, rfl⟩))
    (fun os started H enc _ => lifted os started H enc)

theorem proved : Rows.RuleMarksCardSaid :=
  Claim7.holds_tied_plain_at .later [] [.data, .data, .data, .data, .sentinel, .sentinel, .pinned] true (true, "11b533845e9e544cec4b62e8985955972a5f82d67a6ca1eb3e2cab17f2da9285") true
    row_holds (fun _ h => by cases h) (by kernel_rfl) (fun _ h => by cases h) ruleMarks_row_tie rfl ⟨rfl, rfl⟩ (by kernel_rfl) rfl
    (fun f fn hf hfn => by
      obtain rfl : f = 5 := Option.some.inj ((show Tryd.prog.funcNamed "fascia/fascialaw09.RuleMarks" = some 5 by kernel_rfl).symm.trans hf) |>.symm
      obtain rfl : fn = Tryd.f5 := (Option.some.inj (Tryd.func5.symm.trans hfn)).symm
      exact ⟨by kernel_rfl, fun j t ht => by
        rw [Tryd.params5] at ht
        have hm : t ∈ [22, 5, 5] := by simpa using Array.mem_of_getElem? ht
        have hall : ([22, 5, 5].all fun u => !Tryd.prog.wantsStandIn u) = true := by kernel_rfl
        exact (show Tryd.prog.wantsStandIn t = false by simpa using List.all_eq_true.1 hall t hm)⟩)
    (by kernel_rfl)
end Go.Proofs.YtnmijmhgmcapcaaDoor.ruleMarks
