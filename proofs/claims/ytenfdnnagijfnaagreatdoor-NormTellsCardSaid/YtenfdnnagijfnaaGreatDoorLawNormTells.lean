/-
  For any code points (up to 200), any two: what they are taken apart, and put together, whatever two make, and whether a row is put together, is exactly as the document defines (fascialaw05.NormTells answers true). No condition.
-/
import Derived.Test.YtenfdnnagijfnaaGreatDoorNormRG
import Derived.Test.YtenfdnnagijfnaaGreatDoorStabH
import Derived.Test.YtenfdnnagijfnaaGreatDoorFrame
import Derived.Test.YtenfdnnagijfnaaGreatDoorTie
import Derived.Test.YtenfdnnagijfnaaGreatDoorCards
import Derived.ProofKit
import Derived.Lay
import Derived.Stop.Joined
import Derived.SevenTiedAt
namespace Go.Proofs.YtenfdnnagijfnaaGreatDoor.normTells
open Go.ChangeShapes Go.WideShapes Go.ChangeAt Go.RowKit Norm

theorem in_c32 {zs : List Int} (h : ∀ n ∈ zs, (Lit.int .i32 n).wf = true) : C32 zs := fun x hx => wf32 (h x hx)
theorem run200 {l : List Int} {k : Nat} (h : l.length = k) (hk : k ≤ 1000) : Runs 100000 (dec l) := runs_short (by have := dec_len l; omega)
theorem NFC_own (l R : List Int) (A : Option Addr) (k cap : Nat) (w : World) (hk : l.length = k) (hl : k ≤ 1000) (hC : C32 l) (hr : Row w w.heap.size A (cl .i32 l)) (h : nfc l = R) : Calls Tryz.prog 22 #[.slice A k cap] w (MadeV w R) := by
  have hR := run200 hk hl
  subst hk
  subst h
  exact (NFC_any 100000 stable_any l A cap w hl hC hr hR).mono fun _ _ ⟨g, c, he, ho, hb⟩ => ⟨_, c, he, ho, hb⟩
theorem NFD_own (l R : List Int) (A : Option Addr) (k cap : Nat) (w : World) (hk : l.length = k) (hl : k ≤ 1000) (hC : C32 l) (hr : Row w w.heap.size A (cl .i32 l)) (h : nfd l = R) : Calls Tryz.prog 19 #[.slice A k cap] w (MadeV w R) := by
  have hR := run200 hk hl
  subst hk
  subst h
  exact NFD_any 100000 stable_any l A cap w hl hC hr hR
theorem Same_glue (l : List Int) (A B : Option Addr) (n m c d : Nat) (w : World) (hn : l.length = n) (hm : l.length = m) (hn1 : n ≤ 1000000) (hra : Row w w.heap.size A (cl .i32 l)) (hrb : Row w w.heap.size B (cl .i32 l)) :
    Calls Tryz.prog 16 #[.slice A n c, .slice B m d] w (IsB true w) := by
  have := Same_any l l A B n m c d w hn hm hn1 (by omega) hra hrb
  rw [decide_eq_true rfl] at this
  exact this
theorem Is_row (l : List Int) (A : Option Addr) (k cap : Nat) (w : World) (hk : l.length = k) (hl : k ≤ 1000) (hC : C32 l) (hr : Row w w.heap.size A (cl .i32 l)) (h : nfc l = l) :
    Calls Tryz.prog 23 #[.slice A k cap] w (IsB true w) := by
  have hR := run200 hk hl
  subst hk
  have := Is_any 100000 stable_any l A cap w hl hC hr hR
  rw [decide_eq_true h] at this
  exact this
theorem Same_dec (a b : List Int) (q : Bool) (A B : Option Addr) (n m c d : Nat) (w : World) (hq : decide (a = b) = q) (hn : a.length = n) (hm : b.length = m) (hn1 : n ≤ 1000000) (hm1 : m ≤ 1000000) (hra : Row w w.heap.size A (cl .i32 a)) (hrb : Row w w.heap.size B (cl .i32 b)) :
    Calls Tryz.prog 16 #[.slice A n c, .slice B m d] w (IsB q w) := by
  subst hq
  exact Same_any a b A B n m c d w hn hm hn1 hm1 hra hrb
theorem Is_dec (l : List Int) (q : Bool) (A : Option Addr) (k cap : Nat) (w : World) (hk : l.length = k) (hl : k ≤ 1000) (hC : C32 l) (hr : Row w w.heap.size A (cl .i32 l)) (h : decide (nfc l = l) = q) :
    Calls Tryz.prog 23 #[.slice A k cap] w (IsB q w) := by
  have hR := run200 hk hl
  subst hk
  subst h
  exact Is_any 100000 stable_any l A cap w hl hC hr hR
theorem refNFD_own (l R : List Int) (A : Option Addr) (k cap : Nat) (w : World) (hk : l.length = k) (hl : k ≤ 1000) (hC : C32 l) (hr : Row w w.heap.size A (cl .i32 l)) (h : nfd l = R) : Calls Tryz.prog 20 #[.slice A k cap] w (MadeV w R) := by
  subst hk
  subst h
  exact refNFD_any l A cap w hl hC hr
theorem refNFC_own (l R : List Int) (A : Option Addr) (k cap : Nat) (w : World) (hk : l.length = k) (hl : k ≤ 1000) (hC : C32 l) (hr : Row w w.heap.size A (cl .i32 l)) (h : nfc l = R) : Calls Tryz.prog 21 #[.slice A k cap] w (MadeV w R) := by
  subst hk
  subst h
  exact refNFC_any l A cap w hl hC hr
theorem refSplit_own (a : Int) (F : List Int) (w : World) (h0 : -2147483648 ≤ a ∧ a ≤ 2147483647) (h : full a = F) : Calls Tryz.prog 18 #[.int .i32 a] w (MadeV w F) := by
  subst h
  exact refSplit_any a w h0
theorem in_len {l : List Int} {n : Nat} (hl : l.length = n) (h : n ≤ 200) : (nfd l).length ≤ 1000 := by rw [nfd_len]; have := dec_len l; omega
set_option maxRecDepth 100000 in
set_option maxHeartbeats 2000000 in
theorem walk (A : Option Addr) (n cap : Nat) (l : List Int) (a b : Int) (w : World) (hin : InRow .i32 w A n cap l) (ha0 : -2147483648 ≤ a) (ha1 : a ≤ 2147483647) (hb0 : -2147483648 ≤ b) (hb1 : b ≤ 2147483647) : Calls Tryz.prog 3 #[.slice A n cap, .int .i32 a, .int .i32 b] w fun e w' => e = .returned (.bool true) ∧ Below w.heap.size w w' := by
  obtain ⟨hlen, _, _, hrow, hwf⟩ := hin
  by_cases h100 : 200 < n
  · have h100z : (200 : Int) < (n : Int) := by omega
    go_enter Tryz.func3, Tryz.ntmps3
    go_wp2_with fail
    refine (awake_any _).mono ?_
    rintro e w90 ⟨rfl, hB90⟩
    go_wp2_with fail
    go_ret
    exact ⟨rfl, hB90⟩
  · have h100z : ¬ (200 : Int) < (n : Int) := by omega
    have hcl := in_c32 hwf
    have lD := in_len hlen (by omega)
    have lC := nfc_le hcl
    have hqq : decide (l = nfc l) = decide (nfc l = l) := by rw [decide_eq_decide]; exact eq_comm
    have HCL := Lib.hid hcl
    have HL1 := Lib.hid hlen
    have hF5 := full_len a
    have HJ1 := Lib.hid (fun w => Join_is a b _ w ⟨ha0, ha1⟩ ⟨hb0, hb1⟩ rfl)
    have HJ2 := Lib.hid (fun w => refJoin_any a b w ⟨ha0, ha1⟩ ⟨hb0, hb1⟩)
    unfold jnV at HJ2
    have HA := Lib.hid (show -2147483648 ≤ a ∧ a ≤ 2147483647 from ⟨ha0, ha1⟩)
    obtain ⟨x, hx⟩ : ∃ x, (jn a b).getD 0 = x := ⟨_, rfl⟩
    obtain ⟨z, hz⟩ : ∃ z, (jn a b).isSome = z := ⟨_, rfl⟩
    rw [hx, hz] at HJ1 HJ2
    obtain ⟨D, hD⟩ : ∃ D, nfd l = D := ⟨_, rfl⟩
    obtain ⟨C', hC'⟩ : ∃ C', nfc l = C' := ⟨_, rfl⟩
    obtain ⟨F, hF⟩ : ∃ F, full a = F := ⟨_, rfl⟩
    rw [hD] at lD lC
    rw [hC'] at lC hqq
    rw [hF] at hF5
    obtain ⟨q, hq⟩ : ∃ q, decide (l = C') = q := ⟨_, rfl⟩
    rw [hq] at hqq
    have HQ1 := Lib.hid hq
    have HQ2 : Hid (decide (nfc l = l) = q) := Lib.hid (by rw [hC']; exact hqq.symm)
    have ND := Lib.hid hD
    have NC := Lib.hid hC'
    have NF := Lib.hid hF
    clear hwf hcl hlen hD hC' hF hq hqq hx hz ha0 ha1 hb0 hb1
    go_enter Tryz.func3, Tryz.ntmps3
    have W0 := Below.refl w.heap.size w
    have rl0 := hrow
    go_wp2_with fail
    refine (HJ1.out _).mono ?_
    rintro e w1 ⟨rfl, hB1⟩
    have rl1 := rl0.up hB1
    have W1 := upB W0 hB1
    clear rl0 W0 hB1
    go_wp2_with fail
    refine (HJ2.out _).mono ?_
    rintro e w2 ⟨rfl, hB2⟩
    have rl2 := rl1.up hB2
    have W2 := upB W1 hB2
    clear rl1 W1 hB2
    go_wp2_with fail
    refine (Split_row a F F.length _ HA.out NF.out rfl).mono ?_
    rintro e w3 ⟨A3, c3, rfl, hr3, hB3⟩
    have rl3 := rl2.up hB3
    have W3 := upB W2 hB3
    clear rl2 W2 hB3
    go_wp2_with fail
    refine (refSplit_own a F _ HA.out NF.out).mono ?_
    rintro e w4 ⟨A4, c4, rfl, ho4, hB4⟩
    have rl4 := rl3.up hB4
    have rs4 := hr3.up hB4
    have rt4 := Row.of_own ho4
    have W4 := upB W3 hB4
    clear rl3 hr3 W3 hB4 ho4
    go_wp2_with fail
    refine (Same_glue F _ _ _ _ _ _ _ rfl rfl (by omega) rs4 rt4).mono ?_
    rintro e w5 ⟨rfl, hB5⟩
    have rl5 := rl4.up hB5
    have rs5 := rs4.up hB5
    have rt5 := rt4.up hB5
    have W5 := upB W4 hB5
    clear rl4 rs4 rt4 W4 hB5
    clear rs5
    clear rt5
    go_wp2_with fail
    refine (NFD_own l D _ n _ _ HL1.out (by omega) HCL.out rl5 ND.out).mono ?_
    rintro e w6 ⟨A6, c6, rfl, ho6, hB6⟩
    have rl6 := rl5.up hB6
    have rd6 := Row.of_own ho6
    have W6 := upB W5 hB6
    clear rl5 W5 hB6 ho6
    go_wp2_with fail
    refine (refNFD_own l D _ n _ _ HL1.out (by omega) HCL.out rl6 ND.out).mono ?_
    rintro e w7 ⟨A7, c7, rfl, ho7, hB7⟩
    have rl7 := rl6.up hB7
    have rd7 := rd6.up hB7
    have re7 := Row.of_own ho7
    have W7 := upB W6 hB7
    clear rl6 rd6 W6 hB7 ho7
    go_wp2_with fail
    refine (Same_glue D _ _ _ _ _ _ _ rfl rfl (by omega) rd7 re7).mono ?_
    rintro e w8 ⟨rfl, hB8⟩
    have rl8 := rl7.up hB8
    have rd8 := rd7.up hB8
    have re8 := re7.up hB8
    have W8 := upB W7 hB8
    clear rl7 rd7 re7 W7 hB8
    clear rd8
    clear re8
    go_wp2_with fail
    refine (refNFC_own l C' _ n _ _ HL1.out (by omega) HCL.out rl8 NC.out).mono ?_
    rintro e w9 ⟨A9, c9, rfl, ho9, hB9⟩
    have rl9 := rl8.up hB9
    have rf9 := Row.of_own ho9
    have W9 := upB W8 hB9
    clear rl8 W8 hB9 ho9
    go_wp2_with fail
    refine (NFC_own l C' _ n _ _ HL1.out (by omega) HCL.out rl9 NC.out).mono ?_
    rintro e w10 ⟨A10, c10, rfl, ho10, hB10⟩
    have rl10 := rl9.up hB10
    have rf10 := rf9.up hB10
    have rc10 := Row.of_own ho10
    have W10 := upB W9 hB10
    clear rl9 rf9 W9 hB10 ho10
    go_wp2_with fail
    refine (Same_glue C' _ _ _ _ _ _ _ rfl rfl (by omega) rc10 rf10).mono ?_
    rintro e w11 ⟨rfl, hB11⟩
    have rl11 := rl10.up hB11
    have rf11 := rf10.up hB11
    have rc11 := rc10.up hB11
    have W11 := upB W10 hB11
    clear rl10 rf10 rc10 W10 hB11
    clear rc11
    go_wp2_with fail
    refine (Is_dec l q _ n _ _ HL1.out (by omega) HCL.out rl11 HQ2.out).mono ?_
    rintro e w12 ⟨rfl, hB12⟩
    have rl12 := rl11.up hB12
    have rf12 := rf11.up hB12
    have W12 := upB W11 hB12
    clear rl11 rf11 W11 hB12
    go_wp2_with fail
    refine (Same_dec l C' q _ _ _ _ _ _ _ HQ1.out HL1.out rfl (by omega) (by omega) rl12 rf12).mono ?_
    rintro e w13 ⟨rfl, hB13⟩
    have rl13 := rl12.up hB13
    have rf13 := rf12.up hB13
    have W13 := upB W12 hB13
    clear rl12 rf12 W12 hB13
    go_wp2_with fail
    refine (awake_any _).mono ?_
    rintro e w90 ⟨rfl, hB90⟩
    go_wp2_with fail
    go_ret
    exact ⟨rfl, upB W13 hB90⟩

/-! From the walk to the given statement. -/
set_option linter.unusedVariables false
theorem own : ownKnob Tryz.prog.godebug = none := by kernel_rfl
theorem laidOut : laidOutB Tryz.prog = true := by kernel_rfl
set_option maxRecDepth 100000 in
theorem lifted (os : Os) (started : os.Started) (H : Type) (enc : TypeId × Value → H) :
    ReturnsInHanded {} Tryz.checked os 3 .any (fun w args => (Rows.normTellsSpec.pre enc Tryz.prog Tryz.f3 [] false w args ∧ laidMetH Tryz.prog Rows.normTellsRow.laid w) ∧ sizedMet enc Tryz.prog Tryz.f3 (OpenSpec.ofChange Rows.normTellsSpec) false w args)
      (Rows.normTellsSpec.post enc Tryz.prog Tryz.f3 false true false false) := by
  refine returnsInHanded_of_change_and (C := Tryz.checked) (X := fun w _ => laidMetH Tryz.prog Rows.normTellsRow.laid w) (fun _ _ _ hh h => h.of_heap hh) own started (by kernel_rfl) Tryz.func3
    (ChangeSpec.witness_shaped (enc := enc) (C := Tryz.checked) (os := os) (X := fun w _ => laidMetH Tryz.prog Rows.normTellsRow.laid w) false (World.laidAll Tryz.prog os Rows.normTellsRow.laid) #[.slice none 0 0, .int .i32 0, .int .i32 0] 8 (World.laidAll_os _ _ _)
      (World.shaped_of_ZipB (by kernel_rfl) (by kernel_rfl)) (by kernel_rfl) (by kernel_rfl) (by kernel_rfl)
      (by rw [MakeChecks.laidMetH_plain _ _ _ (by kernel_rfl)]; exact laidMet_laidAll _ (by kernel_rfl) (by kernel_rfl))) ?_
  intro W base args ds gs before hval0 hW _ _ hL _
  have hval : ∀ (j : Nat) t v, Tryz.f3.params[j]? = some t → args[j]? = some v → Value.okWide Tryz.prog W .any base t v := hval0
  have hW' := hW
  obtain ⟨p, q, hA0, hV, rfl, _, _⟩ := hW
  have hA : DataW.TrodAll enc Tryz.prog W 0 (fun _ => true) true Tryz.f3.params.toList args.toList ds p := hA0
  rw [Tryz.params3] at hA hval
  obtain ⟨v0, vs0, d0, ds0, p0, q0, hargs, rfl, rfl, h0, r0⟩ := trodAll_cons hA
  obtain ⟨v1, vs1, d1, ds1, p1, q1, rfl, rfl, rfl, h1, r1⟩ := trodAll_cons r0
  obtain ⟨v2, vs2, d2, ds2, p2, q2, rfl, rfl, rfl, h2, r2⟩ := trodAll_cons r1
  obtain ⟨rfl, rfl, rfl⟩ := trodAll_nil r2
  obtain rfl : args = #[v0, v1, v2] := by cases args; simp_all
  obtain ⟨rfl, rfl⟩ := trodVars_none hV
  obtain ⟨a0, len0, cap0, rfl⟩ := okWide_slice Tryz.underlying22 (hval 0 22 v0 rfl rfl)
  have k0 := h0
  have lt0 : ∀ x ∈ p0, x.block < W.heap.size := by obtain ⟨m, hm⟩ := k0; exact DataW.trod_lt m _ _ _ hm
  obtain ⟨z0, w0⟩ := in_row Tryz.underlying22 Tryz.underlying21 (by kernel_rfl) h0
  obtain ⟨a1, rfl, rfl, rfl, w1⟩ := open_int Tryz.underlying21 (hval 1 21 v1 rfl rfl) h1
  have b1 : -2147483648 ≤ a1 ∧ a1 ≤ 2147483647 := by simpa [Lit.wf, IntKind.min, IntKind.max, IntKind.signed, IntKind.bits] using w1
  obtain ⟨a2, rfl, rfl, rfl, w2⟩ := open_int Tryz.underlying21 (hval 2 21 v2 rfl rfl) h2
  have b2 : -2147483648 ≤ a2 ∧ a2 ≤ 2147483647 := by simpa [Lit.wf, IntKind.min, IntKind.max, IntKind.signed, IntKind.bits] using w2
  clear hA0 hval0
  refine (walk a0 len0 cap0 z0 a1 a2 W w0 b1.1 b1.2 b2.1 b2.2).mono fun e W' ⟨he, bel⟩ => ?_
  subst he
  exact ⟨_, rfl, _, _, _, [], _, [], hW', trodAll_mk1 (shut_bool Tryz.underlying4 _), (trodAll_cons_mk (Below.trod laidOut (by kernel_rfl) (of_decide_eq_true (by kernel_rfl)) k0 bel lt0) (trodAll_cons_mk (shut_int Tryz.underlying21 w1) (trodAll_cons_mk (shut_int Tryz.underlying21 w2) trodAll_mk0))), rfl, bel.frame _, fun h => by cases h⟩

theorem row_holds : Rows.NormTellsSaid :=
  OpenClaim.holds_of_wide 3 Tryz.f3 rfl rfl rfl rfl rfl rfl rfl ⟨rfl, rfl, rfl, rfl, rfl⟩ rfl rfl rfl rfl rfl (by kernel_rfl) Tryz.func3 (by kernel_rfl)
    (of_decide_eq_true (by kernel_rfl)) (by unfold Func.isWrapper; first | (rw [if_pos (by decide +kernel)]; kernel_rfl) | (rw [if_neg (by decide +kernel)]; exact ⟨rfl, rfl⟩))
    (fun os started H enc _ => lifted os started H enc)

theorem proved : Rows.NormTellsCardSaid :=
  Claim7.holds_tied_plain_at .later [] [.data, .data, .data, .data, .sentinel, .sentinel, .pinned] true (true,"c2015b8c54e8a22a452c7ce42c33d13d8ec73b4500df7b5b90db19fb4ce13a18") true
    row_holds (fun _ h => by cases h) (by kernel_rfl) (fun _ h => by cases h) normTells_row_tie rfl ⟨rfl, rfl⟩ (by kernel_rfl) rfl
    (fun f fn hf hfn => by
      obtain rfl : f = 3 := Option.some.inj ((show Tryz.prog.funcNamed "fascia/fascialaw05.NormTells" = some 3 by kernel_rfl).symm.trans hf) |>.symm
      obtain rfl : fn = Tryz.f3 := (Option.some.inj (Tryz.func3.symm.trans hfn)).symm
      exact ⟨by kernel_rfl, fun j t ht => by
        rw [Tryz.params3] at ht
        have hm : t ∈ [22, 21, 21] := by simpa using Array.mem_of_getElem? ht
        have hall : ([22, 21, 21].all fun u => !Tryz.prog.wantsStandIn u) = true := by kernel_rfl
        exact (show Tryz.prog.wantsStandIn t = false by simpa using List.all_eq_true.1 hall t hm)⟩)
    (by kernel_rfl)
end Go.Proofs.YtenfdnnagijfnaaGreatDoor.normTells
