/-
  For any code point: of one alone: it fails nothing just if it may be in a label, is no dot, no mark, and is put together; a hyphen alone fails by edges (fascialaw07.LabelOne answers true). No condition.
-/
import Derived.Test.YtenfdnnagijfnaaGreatDoorLabelD
import Derived.Test.YtenfdnnagijfnaaGreatDoorFrame
import Derived.Test.YtenfdnnagijfnaaGreatDoorTie
import Derived.Test.YtenfdnnagijfnaaGreatDoorCards
import Derived.ProofKit
import Derived.Lay
import Derived.Stop.Joined
import Derived.SevenTiedAt
namespace Go.Proofs.YtenfdnnagijfnaaGreatDoor.labelOne
open Go.ChangeShapes Go.WideShapes Go.ChangeAt Go.RowKit Norm Remap

set_option maxRecDepth 100000 in
set_option maxHeartbeats 2000000 in
theorem walk (r : Int) (w : World) (h0 : -2147483648 ≤ r) (h1 : r ≤ 2147483647) : Calls Tryz.prog 12 #[.int .i32 r] w fun e w' => e = .returned (.bool true) ∧ Below w.heap.size w w' := by
  have hC : C32 [r] := fun x hx => by rw [List.mem_singleton] at hx; rw [hx]; exact ⟨h0, h1⟩
  have HR0 := Lib.hid (row_new' w #[.int .i32 r] 21 [.int .i32 r] rfl)
  have hB0 := upA w (.cells #[.int .i32 r] 21)
  have HX0 := Lib.hid (fun (W : World) A c (h : Row W W.heap.size A (cl .i32 [r])) => Check_any [r] false A 1 c W rfl (by omega) hC h)
  have HX1 := Lib.hid (fun (W : World) A c (h : Row W W.heap.size A (cl .i32 [r])) => Check_any [r] true A 1 c W rfl (by omega) hC h)
  have HI := Lib.hid (fun (W : World) A c (h : Row W W.heap.size A (cl .i32 [r])) => Is_q [r] _ A 1 c W rfl (by omega) hC h rfl)
  have HD := Lib.hid (fun w => Code_any r w)
  have HO := Lib.hid (fun w => Of_any r w)
  have HRC : ∀ (p : List Int) w, (Instr.field 32 (pv p) 0).run Tryz.prog w = .ok (.int .u8 (Ucd.g p 0)) w := fun p w => by kernel_rfl
  have HR := HRC (Ucd.of r)
  have HF := one_false r
  have HT : Hid (r ≠ 45 → chk [r] true = chk [r] false ∧ chk [r] true ≠ 3) := Lib.hid one_true
  have HT45 : Hid (r = 45 → chk [r] true = 3) := Lib.hid (fun h => by rw [h]; exact one_45)
  unfold fine at HF
  generalize Ucd.of r = p at HO HR HF
  obtain ⟨y, hy⟩ : ∃ y, Ucd.g p 0 = y := ⟨_, rfl⟩
  rw [hy] at HR HF
  obtain ⟨x0, hx0⟩ : ∃ x0, chk [r] false = x0 := ⟨_, rfl⟩
  obtain ⟨x1, hx1⟩ : ∃ x1, chk [r] true = x1 := ⟨_, rfl⟩
  obtain ⟨q, hq⟩ : ∃ q, decide (nfc [r] = [r]) = q := ⟨_, rfl⟩
  obtain ⟨v, hv⟩ : ∃ v, vd r = v := ⟨_, rfl⟩
  rw [hx0] at HX0 HF HT
  rw [hx1] at HX1 HT HT45
  rw [hq] at HI HF
  rw [hv] at HD HF
  clear hy hx0 hx1 hq hv HRC hC
  have HF := Lib.hid HF
  obtain ⟨f, hf⟩ : ∃ f, (v && (decide (r ≠ 46) && (decide (y ≠ 4) && q))) = f := ⟨_, rfl⟩
  have HFF := Lib.hid hf
  have HFX : Hid (decide (x0 = 0) = f) := Lib.hid (HF.out.trans hf)
  clear HF hf h0 h1
  go_enter Tryz.func12, Tryz.ntmps12
  go_upto_region 2 with fail
  generalize w.alloc (.cells #[.int .i32 r] 21) = W0 at HR0 hB0 ⊢
  have hr0 := HR0.out
  generalize w.heap.size = B at hr0 ⊢
  go_upto_region 3 with (first | (go_at_call 27; refine (HX0.out _ _ _ hr0).mono ?_; rintro e w1 ⟨rfl, hB1⟩) | fail)
  have hr1 := hr0.up hB1
  have hW1 := upB hB0 hB1
  clear hr0 HR0 hB0 hB1 HX0
  go_cut [5] (fun s5 wx => s5 = .bool f ∧ Below w.heap.size w wx ∧ Row wx wx.heap.size (some ⟨B, 0, none⟩) (cl .i32 [r]))
  case first =>
    have hff := HFF.out
    cases v with
    | false =>
      obtain rfl : f = false := by rw [← hff]; rfl
      clear hff
      go_wp2_with (first | (go_at_call 25; refine (HD.out _).mono ?_; rintro e w2 ⟨rfl, hB2⟩) | fail)
      go_meet
      exact ⟨rfl, upB hW1 hB2, hr1.up hB2⟩
    | true =>
      by_cases h46 : r = 46
      · obtain rfl : f = false := by rw [← hff, decide_eq_false (fun h => h h46)]; rfl
        clear hff
        subst h46
        go_wp2_with (first | (go_at_call 25; refine (HD.out _).mono ?_; rintro e w2 ⟨rfl, hB2⟩) | fail)
        go_meet
        exact ⟨rfl, upB hW1 hB2, hr1.up hB2⟩
      · by_cases h4 : y = 4
        · obtain rfl : f = false := by rw [← hff, decide_eq_true h46, decide_eq_false (fun h => h h4)]; rfl
          clear hff
          subst h4
          go_wp2_with (first
            | (go_at_call 25; refine (HD.out _).mono ?_; rintro e w2 ⟨rfl, hB2⟩)
            | (go_at_call 24; refine (HO.out _).mono ?_; rintro e w3 ⟨rfl, hB3⟩)
            | fail)
          go_meet
          exact ⟨rfl, upB (upB hW1 hB2) hB3, (hr1.up hB2).up hB3⟩
        · obtain rfl : f = q := by rw [← hff, decide_eq_true h46, decide_eq_true h4]; simp
          clear hff
          go_wp2_with (first
            | (go_at_call 25; refine (HD.out _).mono ?_; rintro e w2 ⟨rfl, hB2⟩)
            | (go_at_call 24; refine (HO.out _).mono ?_; rintro e w3 ⟨rfl, hB3⟩)
            | (go_at_call 23; refine (HI.out _ _ _ ((hr1.up hB2).up hB3)).mono ?_; rintro e w4 ⟨rfl, hB4⟩)
            | fail)
          go_meet
          exact ⟨by first | rfl | simp [h46, h4], upB (upB (upB hW1 hB2) hB3) hB4, ((hr1.up hB2).up hB3).up hB4⟩
  case rest =>
    obtain ⟨rfl, hW5, hr5⟩ := hcut
    clear hW1 hr1 HI HD HO HR
    generalize wc = w5 at hW5 hr5 ⊢
    have hfx := HFX.out
    cases f with
    | true =>
      obtain rfl : x0 = 0 := of_decide_eq_true hfx
      clear hfx HFX HFF
      by_cases h45 : r = 45
      · obtain rfl : x1 = 3 := HT45.out h45
        subst h45
        clear HT HT45
        have HAW := Lib.hid awake7_any
        go_wp2_with (first | (go_at_call 27; refine (HX1.out _ _ _ hr5).mono ?_; rintro e w6 ⟨rfl, hB6⟩) | (go_at_call 29; refine (HAW.out _).mono ?_; rintro e w7 ⟨rfl, hB7⟩) | fail)
        go_ret
        exact ⟨by first | rfl | simp [h45b] | simp [h45], upB (upB hW5 hB6) hB7⟩
      · obtain ⟨e1, e2⟩ := HT.out h45
        subst e1
        have e2b : ((0 : Int) == 3) = false := rfl
        have h45b : (r == 45) = false := by simpa using h45
        clear HT HT45
        have HAW := Lib.hid awake7_any
        go_wp2_with (first | (go_at_call 27; refine (HX1.out _ _ _ hr5).mono ?_; rintro e w6 ⟨rfl, hB6⟩) | (go_at_call 29; refine (HAW.out _).mono ?_; rintro e w7 ⟨rfl, hB7⟩) | fail)
        go_ret
        exact ⟨by first | rfl | simp [h45b] | simp [h45], upB (upB hW5 hB6) hB7⟩
    | false =>
      have hx0 : ¬ x0 = 0 := of_decide_eq_false hfx
      have hx0b : (x0 == 0) = false := by simpa using hx0
      clear hfx HFX HFF
      by_cases h45 : r = 45
      · obtain rfl : x1 = 3 := HT45.out h45
        subst h45
        clear HT HT45
        have HAW := Lib.hid awake7_any
        go_wp2_with (first | (go_at_call 27; refine (HX1.out _ _ _ hr5).mono ?_; rintro e w6 ⟨rfl, hB6⟩) | (go_at_call 29; refine (HAW.out _).mono ?_; rintro e w7 ⟨rfl, hB7⟩) | fail)
        go_ret
        exact ⟨by first | rfl | simp, upB (upB hW5 hB6) hB7⟩
      · obtain ⟨e1, e2⟩ := HT.out h45
        subst e1
        have e2b : (x1 == 3) = false := by simpa using e2
        have h45b : (r == 45) = false := by simpa using h45
        clear HT HT45
        have HAW := Lib.hid awake7_any
        go_wp2_with (first | (go_at_call 27; refine (HX1.out _ _ _ hr5).mono ?_; rintro e w6 ⟨rfl, hB6⟩) | (go_at_call 29; refine (HAW.out _).mono ?_; rintro e w7 ⟨rfl, hB7⟩) | fail)
        go_ret
        exact ⟨by first | rfl | simp, upB (upB hW5 hB6) hB7⟩

/-! From the walk to the given statement. -/
set_option linter.unusedVariables false
theorem own : ownKnob Tryz.prog.godebug = none := by kernel_rfl
theorem laidOut : laidOutB Tryz.prog = true := by kernel_rfl
set_option maxRecDepth 100000 in
theorem lifted (os : Os) (started : os.Started) (H : Type) (enc : TypeId × Value → H) :
    ReturnsInHanded {} Tryz.checked os 12 .any (fun w args => (Rows.labelOneSpec.pre enc Tryz.prog Tryz.f12 [] false w args ∧ laidMetH Tryz.prog Rows.labelOneRow.laid w) ∧ sizedMet enc Tryz.prog Tryz.f12 (OpenSpec.ofChange Rows.labelOneSpec) false w args)
      (Rows.labelOneSpec.post enc Tryz.prog Tryz.f12 false true false false) := by
  refine returnsInHanded_of_change_and (C := Tryz.checked) (X := fun w _ => laidMetH Tryz.prog Rows.labelOneRow.laid w) (fun _ _ _ hh h => h.of_heap hh) own started (by kernel_rfl) Tryz.func12
    (ChangeSpec.witness_shaped (enc := enc) (C := Tryz.checked) (os := os) (X := fun w _ => laidMetH Tryz.prog Rows.labelOneRow.laid w) false (World.laidAll Tryz.prog os Rows.labelOneRow.laid) #[.int .i32 0] 8 (World.laidAll_os _ _ _)
      (World.shaped_of_ZipB (by kernel_rfl) (by kernel_rfl)) (by kernel_rfl) (by kernel_rfl) (by kernel_rfl)
      (by rw [MakeChecks.laidMetH_plain _ _ _ (by kernel_rfl)]; exact laidMet_laidAll _ (by kernel_rfl) (by kernel_rfl))) ?_
  intro W base args ds gs before hval0 hW _ _ hL _
  have hval : ∀ (j : Nat) t v, Tryz.f12.params[j]? = some t → args[j]? = some v → Value.okWide Tryz.prog W .any base t v := hval0
  have hW' := hW
  obtain ⟨p, q, hA0, hV, rfl, _, _⟩ := hW
  have hA : DataW.TrodAll enc Tryz.prog W 0 (fun _ => true) true Tryz.f12.params.toList args.toList ds p := hA0
  rw [Tryz.params12] at hA hval
  obtain ⟨v0, vs0, d0, ds0, p0, q0, hargs, rfl, rfl, h0, r0⟩ := trodAll_cons hA
  obtain ⟨rfl, rfl, rfl⟩ := trodAll_nil r0
  obtain rfl : args = #[v0] := by cases args; simp_all
  obtain ⟨rfl, rfl⟩ := trodVars_none hV
  obtain ⟨a0, rfl, rfl, rfl, w0⟩ := open_int Tryz.underlying21 (hval 0 21 v0 rfl rfl) h0
  have b0 : -2147483648 ≤ a0 ∧ a0 ≤ 2147483647 := by simpa [Lit.wf, IntKind.min, IntKind.max, IntKind.signed, IntKind.bits] using w0
  clear hA0 hval0
  refine (walk a0 W b0.1 b0.2).mono fun e W' ⟨he, bel⟩ => ?_
  subst he
  exact ⟨_, rfl, _, _, _, [], _, [], hW', trodAll_mk1 (shut_bool Tryz.underlying4 _), (trodAll_cons_mk (shut_int Tryz.underlying21 w0) trodAll_mk0), rfl, bel.frame _, fun h => by cases h⟩

theorem row_holds : Rows.LabelOneSaid :=
  OpenClaim.holds_of_wide 12 Tryz.f12 rfl rfl rfl rfl rfl rfl rfl ⟨rfl, rfl, rfl, rfl, rfl⟩ rfl rfl rfl rfl rfl (by kernel_rfl) Tryz.func12 (by kernel_rfl)
    (of_decide_eq_true (by kernel_rfl)) (by unfold Func.isWrapper; first | (rw [if_pos (by decide +kernel)]; kernel_rfl) | (rw [if_neg (by decide +kernel)]; exact ⟨rfl, rfl⟩))
    (fun os started H enc _ => lifted os started H enc)

theorem proved : Rows.LabelOneCardSaid :=
  Claim7.holds_tied_plain_at .later [] [.data, .data, .data, .data, .sentinel, .sentinel, .pinned] true (true,"c2015b8c54e8a22a452c7ce42c33d13d8ec73b4500df7b5b90db19fb4ce13a18") true
    row_holds (fun _ h => by cases h) (by kernel_rfl) (fun _ h => by cases h) labelOne_row_tie rfl ⟨rfl, rfl⟩ (by kernel_rfl) rfl
    (fun f fn hf hfn => by
      obtain rfl : f = 12 := Option.some.inj ((show Tryz.prog.funcNamed "fascia/fascialaw07.LabelOne" = some 12 by kernel_rfl).symm.trans hf) |>.symm
      obtain rfl : fn = Tryz.f12 := (Option.some.inj (Tryz.func12.symm.trans hfn)).symm
      exact ⟨by kernel_rfl, fun j t ht => by
        rw [Tryz.params12] at ht
        have hm : t ∈ [21] := by simpa using Array.mem_of_getElem? ht
        have hall : ([21].all fun u => !Tryz.prog.wantsStandIn u) = true := by kernel_rfl
        exact (show Tryz.prog.wantsStandIn t = false by simpa using List.all_eq_true.1 hall t hm)⟩)
    (by kernel_rfl)
end Go.Proofs.YtenfdnnagijfnaaGreatDoor.labelOne
