/-
  For any label (up to 200): one that fails nothing is mapped to itself, put together, has no capital, and begins with no mark; what fails without edges fails with them, by the same clause, or by one of hyphens; and what any row becomes, mapped and put together, fails by ClauseNorm never (fascialaw07.LabelMapped answers true). No condition.
-/
import Derived.Test.YtenfdnnagijfnaaGreatDoorRemapD
import Derived.Test.YtenfdnnagijfnaaGreatDoorFrame
import Derived.Test.YtenfdnnagijfnaaGreatDoorTie
import Derived.Test.YtenfdnnagijfnaaGreatDoorCards
import Derived.ProofKit
import Derived.Lay
import Derived.Stop.Joined
import Derived.SevenTiedAt
namespace Go.Proofs.YtenfdnnagijfnaaGreatDoor.labelMapped
open Go.ChangeShapes Go.WideShapes Go.ChangeAt Go.RowKit Norm Remap

theorem in_c32 {zs : List Int} (h : ∀ n ∈ zs, (Lit.int .i32 n).wf = true) : C32 zs := fun x hx => wf32 (h x hx)
theorem run200 {l : List Int} {k : Nat} (h : l.length = k) (hk : k ≤ 1000) : Runs 100000 (dec l) := runs_short (by have := dec_len l; omega)
theorem NFC_own (l R : List Int) (A : Option Addr) (k cap : Nat) (w : World) (hk : l.length = k) (hl : k ≤ 1000) (hC : C32 l) (hr : Row w w.heap.size A (cl .i32 l)) (h : nfc l = R) : Calls Tryz.prog 22 #[.slice A k cap] w (MadeV w R) := by
  have hR := run200 hk hl
  subst hk
  subst h
  exact (NFC_any 100000 stable_any l A cap w (by omega) hC hr hR).mono fun _ _ ⟨g, c, he, ho, hb⟩ => ⟨_, c, he, ho, hb⟩
theorem NFD_own (l R : List Int) (A : Option Addr) (k cap : Nat) (w : World) (hk : l.length = k) (hl : k ≤ 1000) (hC : C32 l) (hr : Row w w.heap.size A (cl .i32 l)) (h : nfd l = R) : Calls Tryz.prog 19 #[.slice A k cap] w (MadeV w R) := by
  have hR := run200 hk hl
  subst hk
  subst h
  exact NFD_any 100000 stable_any l A cap w (by omega) hC hr hR
theorem Same_glue (l : List Int) (A B : Option Addr) (n m c d : Nat) (w : World) (hn : l.length = n) (hm : l.length = m) (hn1 : n ≤ 1000000) (hra : Row w w.heap.size A (cl .i32 l)) (hrb : Row w w.heap.size B (cl .i32 l)) :
    Calls Tryz.prog 16 #[.slice A n c, .slice B m d] w (IsB true w) := by
  have := Same_any l l A B n m c d w hn hm hn1 (by omega) hra hrb
  rw [decide_eq_true rfl] at this
  exact this
theorem chk_not1 {l : List Int} (h : nfc l = l) : chk l false ≠ 1 := by
  have h1 : vio l 1 = false := by rw [vio1, decide_eq_true h]; rfl
  rw [chk_eq, h1]
  cases vio l 0 <;> cases vio l 4 <;> cases vio l 5 <;> cases vio l 6 <;> simp
set_option maxRecDepth 100000 in
set_option maxHeartbeats 4000000 in
theorem walk (A : Option Addr) (n cap : Nat) (l : List Int) (w : World) (hin : InRow .i32 w A n cap l) : Calls Tryz.prog 10 #[.slice A n cap] w fun e w' => e = .returned (.bool true) ∧ Below w.heap.size w w' := by
  obtain ⟨hlen, _, _, hrow, hwf⟩ := hin
  obtain ⟨i0, hi, hz0, hz1, hz2⟩ := info_split info_int32
  have HAW := Lib.hid awake7_any
  by_cases h200 : 200 < n
  · have h200z : (200 : Int) < (n : Int) := by omega
    go_enter Tryz.func10, Tryz.ntmps10
    go_wp2_with (first | (go_at_call 29; refine (HAW.out _).mono ?_; rintro e w90 ⟨rfl, hB90⟩) | fail)
    go_ret
    exact ⟨rfl, hB90⟩
  · have h200z : ¬ (200 : Int) < (n : Int) := by omega
    have hcl := in_c32 hwf
    have HCL := Lib.hid hcl
    have HL := Lib.hid hlen
    have hk1 : (cl .i32 l).length = n * 1 := by rw [Nat.mul_one, ← hlen]; simp [cl]
    have HCM := Lib.hid (mapL_32 hcl)
    have hml := mapL_len l
    have hNR := nfc_nfc (mapL_32 hcl)
    have HCR := Lib.hid (nfc_c32 (mapL_32 hcl))
    have hrl := nfc_le (mapL_32 hcl)
    rw [nfd_len] at hrl
    have hdl := dec_len (mapL l)
    have HX2 := Lib.hid (chk_not1 hNR)
    have HSF : Hid (chk l false = 0 → nfc (mapL l) = l) := Lib.hid (fun h => by
      obtain ⟨_, h1, _, _, _, h6⟩ := chk_zero.1 h
      rw [mapL_self h6]
      rw [vio1] at h1
      exact of_decide_eq_true (by simpa using h1))
    have HZ : Hid (chk l false = 0 → 0 < n ∧ 46 ∉ l ∧ Ucd.g (Ucd.of l[0]!) 0 ≠ 4 ∧ ∀ r ∈ l, vd r = true) := Lib.hid (fun h => by
      obtain ⟨h0, _, _, h4, h5, h6⟩ := chk_zero.1 h
      rw [vio0] at h0
      rw [vio4] at h4
      rw [vio5] at h5
      rw [vio6, List.any_eq_false] at h6
      refine ⟨by have := of_decide_eq_false h0; omega, of_decide_eq_false h4, of_decide_eq_false h5, fun r hr => ?_⟩
      have := h6 r hr
      cases hv : vd r with
      | true => rfl
      | false => rw [hv] at this; exact absurd rfl this)
    have HBR : Hid (chk l true = chk l false ∨ chk l true = 2 ∨ chk l true = 3) := Lib.hid chk_bare
    have HK0 := Lib.hid (fun (W : World) (h : Row W W.heap.size A (cl .i32 l)) => Check_any l false A n cap W hlen (by omega) hcl h)
    have HK1 := Lib.hid (fun (W : World) (h : Row W W.heap.size A (cl .i32 l)) => Check_any l true A n cap W hlen (by omega) hcl h)
    obtain ⟨x0, hx0⟩ : ∃ x, chk l false = x := ⟨_, rfl⟩
    obtain ⟨x1, hx1⟩ : ∃ x, chk l true = x := ⟨_, rfl⟩
    rw [hx0] at HK0 HBR HSF HZ
    rw [hx1] at HK1 HBR
    have HMP := Lib.hid (fun (W : World) (h : Row W W.heap.size A (cl .i32 l)) => Map_any l A n cap W hlen (by omega) h)
    obtain ⟨M, hM⟩ : ∃ M, mapL l = M := ⟨_, rfl⟩
    rw [hM] at HMP HCM hml hNR HCR hrl hdl HX2 HSF
    obtain ⟨R, hR⟩ : ∃ R, nfc M = R := ⟨_, rfl⟩
    rw [hR] at HCR hrl HX2 HSF
    have NR := Lib.hid hR
    obtain ⟨x2, hx2⟩ : ∃ x, chk R false = x := ⟨_, rfl⟩
    rw [hx2] at HX2
    have HKE2 := Lib.hid hx2
    have hR4 : R.length ≤ 4000 := by omega
    have hM1 : M.length ≤ 1000 := by omega
    clear hwf hcl hlen hx0 hx1 hM hR hx2 hNR hml hrl hdl
    go_enter Tryz.func10, Tryz.ntmps10
    have hF0 := own_empty w w.heap.size 21 (Nat.le_refl _)
    have hF1 : Below w.heap.size w (w.alloc (.cells #[] 21)) := upA w _
    go_upto_region 4 with (first
      | (at_builtin; refine wpList_append_row _ rfl _ _ 22 rfl w.heap.size 21 i0 (.int .i32 0) 1 4 Tryz.underlying22 hi hz0 hz1 hz2 rfl (by decide) _ 0 [] rfl hF0 _ _ n _ (cl .i32 l) rfl hk1 (hrow.up hF1) (one_cl _ _) (by unfold maxLen; omega) (by omega) hF1.size ?_; intro v0 w0 hO0 hg0; have W0 : Below w.heap.size w w0 := hF1.grown hg0 hF1.size (fun j e => (hF0.lt j e).1); obtain ⟨Aw, cw, hv0⟩ := own_shape hO0; subst hv0)
      | fail)
    have rw0 := Row.of_own hO0
    rw [List.nil_append] at rw0
    have rl0 := hrow.up W0
    clear hO0 hg0 hF0 hF1 hk1
    go_upto_region 5 with (first
      | (go_at_call 27; refine (HK0.out _ rl0).mono ?_; rintro e w1 ⟨rfl, hB1⟩; have rl1 := rl0.up hB1; have rw1 := rw0.up hB1; have W1 := upB W0 hB1; clear hB1 W0 rl0 rw0)
      | (go_at_call 27; refine (HK1.out _ rl1).mono ?_; rintro e w2 ⟨rfl, hB2⟩; have rl2 := rl1.up hB2; have rw2 := rw1.up hB2; have W2 := upB W1 hB2; clear hB2 W1 rl1 rw1)
      | fail)
    clear HK0 HK1
    go_cut [51] (fun s51 wx => s51 = .bool false ∧ wx = w2)
    case first =>
      rcases HBR.out with h | h | h
      · subst h
        by_cases hx : x1 = 0
        · subst hx
          go_wp2_with fail
          go_meet
          exact ⟨by first | rfl | simp, rfl⟩
        · have hxb : (x1 == 0) = false := by simpa using hx
          go_wp2_with fail
          go_meet
          exact ⟨by first | rfl | simp, rfl⟩
      · subst h
        by_cases hx : x0 = 0
        · subst hx
          go_wp2_with fail
          go_meet
          exact ⟨by first | rfl | simp, rfl⟩
        · have hxb : (x0 == 0) = false := by simpa using hx
          by_cases hy : x0 = 2
          · subst hy
            go_wp2_with fail
            go_meet
            exact ⟨by first | rfl | simp, rfl⟩
          · have hyb : (2 == x0) = false := by simpa using fun e => hy e.symm
            have hyc : ¬ 2 = x0 := fun e => hy e.symm
            go_wp2_with fail
            go_meet
            exact ⟨by first | rfl | simp, rfl⟩
      · subst h
        by_cases hx : x0 = 0
        · subst hx
          go_wp2_with fail
          go_meet
          exact ⟨by first | rfl | simp, rfl⟩
        · have hxb : (x0 == 0) = false := by simpa using hx
          by_cases hy : x0 = 3
          · subst hy
            go_wp2_with fail
            go_meet
            exact ⟨by first | rfl | simp, rfl⟩
          · have hyb : (3 == x0) = false := by simpa using fun e => hy e.symm
            have hyc : ¬ 3 = x0 := fun e => hy e.symm
            go_wp2_with fail
            go_meet
            exact ⟨by first | rfl | simp, rfl⟩
    case rest =>
      obtain ⟨rfl, hwc⟩ := hcut
      rw [hwc]
      clear hwc HBR
      have hx2b : (x2 == 1) = false := beq_eq_false_iff_ne.2 HX2.out
      have hx2n : ¬ x2 = 1 := HX2.out
      go_upto_region 9 with (first
        | (go_at_call 30; refine (HMP.out _ rl2).mono ?_; rintro e w3 ⟨Am, cm, qm, rfl, ho3, hB3⟩; have rm3 := Row.of_own ho3; have rl3 := rl2.up hB3; have rw3 := rw2.up hB3; have W3 := upB W2 hB3; clear hB3 ho3 W2 rl2 rw2)
        | (go_at_call 22; refine (NFC_own M R _ _ _ _ rfl hM1 HCM.out rm3 NR.out).mono ?_; rintro e w4 ⟨Ar, cr, rfl, ho4, hB4⟩; have rr4 := Row.of_own ho4; have rl4 := rl3.up hB4; have rw4 := rw3.up hB4; have W4 := upB W3 hB4; clear hB4 ho4 W3 rl3 rw3 rm3)
        | fail)
      clear HMP HX2
      go_upto_region 11 with (first
        | (go_at_call 27; refine (Check_any R false _ _ _ _ rfl hR4 HCR.out rr4).mono ?_; rw [HKE2.out]; rintro e w5 ⟨rfl, hB5⟩; have rr5 := rr4.up hB5; have rl5 := rl4.up hB5; have rw5 := rw4.up hB5; have W5 := upB W4 hB5; clear hB5 W4 rl4 rw4 rr4)
        | (go_at_call 16; refine (Same_glue l _ _ _ _ _ _ _ HL.out HL.out (by omega) rl5 rw5).mono ?_; rintro e w6 ⟨rfl, hB6⟩; have rr6 := rr5.up hB6; have rl6 := rl5.up hB6; have W6 := upB W5 hB6; clear hB6 W5 rl5 rw5 rr5)
        | fail)
      clear hx2b hx2n HKE2
      by_cases hx : x0 = 0
      · have hRl := HSF.out hx
        obtain ⟨hn0, h46, h4, hvd⟩ := HZ.out hx
        have HN46 := Lib.hid h46
        have HVD := Lib.hid hvd
        subst hx
        subst hRl
        clear HSF HZ h46 hvd
        have hz1 : ¬ (n : Int) = 0 := by omega
        have hz1b : ((n : Int) == 0) = false := beq_eq_false_iff_ne.2 hz1
        obtain ⟨b, o, rfl, hb, hcc⟩ := rl6.at_ (by have := HL.out; simp; omega)
        have c0 := row_cell hcc 0 (by rw [HL.out]; exact hn0)
        rw [Nat.add_zero] at c0
        obtain ⟨x, hxx⟩ : ∃ x, R[0]! = x := ⟨_, rfl⟩
        rw [hxx] at c0 h4
        have HO := Lib.hid (fun w => Of_any x w)
        have HRC : ∀ (p : List Int) w, (Instr.field 32 (pv p) 0).run Tryz.prog w = .ok (.int .u8 (Ucd.g p 0)) w := fun p w => by kernel_rfl
        have HR0 := HRC (Ucd.of x)
        have HRCH := Lib.hid HRC
        clear HRC
        generalize Ucd.of x = p at HO HR0 h4
        obtain ⟨y, hy⟩ : ∃ y, Ucd.g p 0 = y := ⟨_, rfl⟩
        rw [hy] at HR0 h4
        have h4b : (y == 4) = false := by simpa using h4
        have z0 : (0 : Int) < (n : Int) := by omega
        have HLR : Hid (R.length = n) := HL
        clear hcc hxx hy
        go_upto_region 15 with (first
          | (go_at_call 16; refine (Same_glue R _ _ _ _ _ _ _ rfl HL.out (by omega) rr6 rl6).mono ?_; rintro e w7 ⟨rfl, hB7⟩; have rl7 := rl6.up hB7; have W7 := upB W6 hB7; have c7 := (hB7.cell (p := ⟨b, o, none⟩) hb).trans c0; clear hB7 W6 rl6 rr6 c0)
          | (go_at_call 24; refine (HO.out _).mono ?_; rintro e w8 ⟨rfl, hB8⟩; have rl8 := rl7.up hB8; have W8 := upB W7 hB8; clear hB8 W7 rl7 c7)
          | fail)
        clear HO HR0 h4b h4
        go_wp2_with fail
        go_loopg [90] n (fun m s90 wr => ∃ k : Nat, s90 = .int .i64 (k : Int) ∧ m = n - k ∧ k ≤ n ∧ Below w8.heap.size w8 wr)
        case atStart => exact ⟨0, rfl, rfl, Nat.zero_le _, Below.refl _ _⟩
        case round =>
          obtain ⟨k, rfl, rfl, hk, hB⟩ := hrel
          by_cases hlt : k < n
          · have hltz : (k : Int) < (n : Int) := by omega
            obtain ⟨b', o', hA', hb', hcc⟩ := (rl8.below hB).at_ (by have := HL.out; simp; omega)
            obtain ⟨rfl, rfl⟩ : b = b' ∧ o = o' := by simpa using hA'
            clear hA'
            have c0 := row_cell hcc k (by rw [HL.out]; exact hlt)
            have hm := mems (l := R) (i := k) (by rw [HL.out]; exact hlt)
            obtain ⟨z, hzz⟩ : ∃ z, R[k]! = z := ⟨_, rfl⟩
            rw [hzz] at c0 hm
            have hv := HVD.out z hm
            have hu := vd_upper hv
            have h46 : z ≠ 46 := fun e => HN46.out (by rw [← e]; exact hm)
            have HCD := Lib.hid (fun w => Code_any z w)
            rw [hv] at HCD
            have HO := Lib.hid (fun w => Of_any z w)
            have HR0 := HRCH.out (Ucd.of z)
            generalize Ucd.of z = p at HO HR0 hu
            obtain ⟨y2, hy2⟩ : ∃ y, Ucd.g p 0 = y := ⟨_, rfl⟩
            rw [hy2] at HR0 hu
            have hub : (y2 == 2) = false := by simpa using hu
            have h46b : (z == 46) = false := by simpa using h46
            clear hcc hzz hm hv hy2 HRCH
            go_wp2_with (first
              | (go_at_call 24; refine (HO.out _).mono ?_; rintro e w9 ⟨rfl, hB9⟩)
              | (go_at_call 25; refine (HCD.out _).mono ?_; rintro e w10 ⟨rfl, hB10⟩)
              | fail)
            go_roundg (n - (k + 1))
            case measure => omega
            case rel => exact ⟨k + 1, by go_num, rfl, by omega, upB (upB hB hB9) hB10⟩
          · obtain rfl : k = n := by omega
            have hltz : ¬ ((k : Nat) : Int) < (k : Int) := by omega
            clear HRCH
            go_wp2_with (first | (go_at_call 29; refine (HAW.out _).mono ?_; rintro e w90 ⟨rfl, hB90⟩) | fail)
            go_ret
            exact ⟨rfl, upB (upB W8 hB) hB90⟩
      · have hxb : (x0 == 0) = false := by simpa using hx
        clear HSF HZ
        go_wp2_with (first | (go_at_call 29; refine (HAW.out _).mono ?_; rintro e w90 ⟨rfl, hB90⟩) | fail)
        go_ret
        exact ⟨rfl, upB W6 hB90⟩

/-! From the walk to the given statement. -/
set_option linter.unusedVariables false
theorem own : ownKnob Tryz.prog.godebug = none := by kernel_rfl
theorem laidOut : laidOutB Tryz.prog = true := by kernel_rfl
set_option maxRecDepth 100000 in
theorem lifted (os : Os) (started : os.Started) (H : Type) (enc : TypeId × Value → H) :
    ReturnsInHanded {} Tryz.checked os 10 .any (fun w args => (Rows.labelMappedSpec.pre enc Tryz.prog Tryz.f10 [] false w args ∧ laidMetH Tryz.prog Rows.labelMappedRow.laid w) ∧ sizedMet enc Tryz.prog Tryz.f10 (OpenSpec.ofChange Rows.labelMappedSpec) false w args)
      (Rows.labelMappedSpec.post enc Tryz.prog Tryz.f10 false true false false) := by
  refine returnsInHanded_of_change_and (C := Tryz.checked) (X := fun w _ => laidMetH Tryz.prog Rows.labelMappedRow.laid w) (fun _ _ _ hh h => h.of_heap hh) own started (by kernel_rfl) Tryz.func10
    (ChangeSpec.witness_shaped (enc := enc) (C := Tryz.checked) (os := os) (X := fun w _ => laidMetH Tryz.prog Rows.labelMappedRow.laid w) false (World.laidAll Tryz.prog os Rows.labelMappedRow.laid) #[.slice none 0 0] 8 (World.laidAll_os _ _ _)
      (World.shaped_of_ZipB (by kernel_rfl) (by kernel_rfl)) (by kernel_rfl) (by kernel_rfl) (by kernel_rfl)
      (by rw [MakeChecks.laidMetH_plain _ _ _ (by kernel_rfl)]; exact laidMet_laidAll _ (by kernel_rfl) (by kernel_rfl))) ?_
  intro W base args ds gs before hval0 hW _ _ hL _
  have hval : ∀ (j : Nat) t v, Tryz.f10.params[j]? = some t → args[j]? = some v → Value.okWide Tryz.prog W .any base t v := hval0
  have hW' := hW
  obtain ⟨p, q, hA0, hV, rfl, _, _⟩ := hW
  have hA : DataW.TrodAll enc Tryz.prog W 0 (fun _ => true) true Tryz.f10.params.toList args.toList ds p := hA0
  rw [Tryz.params10] at hA hval
  obtain ⟨v0, vs0, d0, ds0, p0, q0, hargs, rfl, rfl, h0, r0⟩ := trodAll_cons hA
  obtain ⟨rfl, rfl, rfl⟩ := trodAll_nil r0
  obtain rfl : args = #[v0] := by cases args; simp_all
  obtain ⟨rfl, rfl⟩ := trodVars_none hV
  obtain ⟨a0, len0, cap0, rfl⟩ := okWide_slice Tryz.underlying22 (hval 0 22 v0 rfl rfl)
  have k0 := h0
  have lt0 : ∀ x ∈ p0, x.block < W.heap.size := by obtain ⟨m, hm⟩ := k0; exact DataW.trod_lt m _ _ _ hm
  obtain ⟨z0, w0⟩ := in_row Tryz.underlying22 Tryz.underlying21 (by kernel_rfl) h0
  clear hA0 hval0
  refine (walk a0 len0 cap0 z0 W w0).mono fun e W' ⟨he, bel⟩ => ?_
  subst he
  exact ⟨_, rfl, _, _, _, [], _, [], hW', trodAll_mk1 (shut_bool Tryz.underlying4 _), (trodAll_cons_mk (Below.trod laidOut (by kernel_rfl) (of_decide_eq_true (by kernel_rfl)) k0 bel lt0) trodAll_mk0), rfl, bel.frame _, fun h => by cases h⟩

theorem row_holds : Rows.LabelMappedSaid :=
  OpenClaim.holds_of_wide 10 Tryz.f10 rfl rfl rfl rfl rfl rfl rfl ⟨rfl, rfl, rfl, rfl, rfl⟩ rfl rfl rfl rfl rfl (by kernel_rfl) Tryz.func10 (by kernel_rfl)
    (of_decide_eq_true (by kernel_rfl)) (by unfold Func.isWrapper; first | (rw [if_pos (by decide +kernel)]; kernel_rfl) | (rw [if_neg (by decide +kernel)]; exact ⟨rfl, rfl⟩))
    (fun os started H enc _ => lifted os started H enc)

theorem proved : Rows.LabelMappedCardSaid :=
  Claim7.holds_tied_plain_at .later [] [.data, .data, .data, .data, .sentinel, .sentinel, .pinned] true (true,"c2015b8c54e8a22a452c7ce42c33d13d8ec73b4500df7b5b90db19fb4ce13a18") true
    row_holds (fun _ h => by cases h) (by kernel_rfl) (fun _ h => by cases h) labelMapped_row_tie rfl ⟨rfl, rfl⟩ (by kernel_rfl) rfl
    (fun f fn hf hfn => by
      obtain rfl : f = 10 := Option.some.inj ((show Tryz.prog.funcNamed "fascia/fascialaw07.LabelMapped" = some 10 by kernel_rfl).symm.trans hf) |>.symm
      obtain rfl : fn = Tryz.f10 := (Option.some.inj (Tryz.func10.symm.trans hfn)).symm
      exact ⟨by kernel_rfl, fun j t ht => by
        rw [Tryz.params10] at ht
        have hm : t ∈ [22] := by simpa using Array.mem_of_getElem? ht
        have hall : ([22].all fun u => !Tryz.prog.wantsStandIn u) = true := by kernel_rfl
        exact (show Tryz.prog.wantsStandIn t = false by simpa using List.all_eq_true.1 hall t hm)⟩)
    (by kernel_rfl)
end Go.Proofs.YtenfdnnagijfnaaGreatDoor.labelMapped
