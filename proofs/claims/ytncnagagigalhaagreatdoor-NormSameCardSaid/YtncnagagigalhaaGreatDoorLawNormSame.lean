/-
  For any two rows of code points (up to 200): what is taken apart, or put together, is so for good; put together and taken apart it is as taken apart at once, and the other way about; two rows are taken apart alike just if they are put together alike; and what is handed in stays (fascialaw05.NormSame answers true). No condition.
-/
import Derived.Test.YtncnagagigalhaaGreatDoorNormZ
import Derived.Test.YtncnagagigalhaaGreatDoorStabH
import Derived.Test.YtncnagagigalhaaGreatDoorFrame
import Derived.Test.YtncnagagigalhaaGreatDoorFrame
import Derived.Test.YtncnagagigalhaaGreatDoorTie
import Derived.Test.YtncnagagigalhaaGreatDoorCards
import Derived.ProofKit
import Derived.Lay
import Derived.Stop.Joined
import Derived.SevenTiedAt
namespace Go.Proofs.YtncnagagigalhaaGreatDoor.normSame
open Go.ChangeShapes Go.WideShapes Go.ChangeAt Go.RowKit Norm

theorem in_c32 {zs : List Int} (h : ∀ n ∈ zs, (Lit.int .i32 n).wf = true) : C32 zs := fun x hx => wf32 (h x hx)
theorem run200 {l : List Int} {k : Nat} (h : l.length = k) (hk : k ≤ 1000) : Runs 100000 (dec l) := runs_short (by have := dec_len l; omega)
theorem NFC_own (l R : List Int) (A : Option Addr) (k cap : Nat) (w : World) (hk : l.length = k) (hl : k ≤ 1000) (hC : C32 l) (hr : Row w w.heap.size A (cl .i32 l)) (h : nfc l = R) : Calls Tryz.prog 18 #[.slice A k cap] w (MadeV w R) := by
  have hR := run200 hk hl
  subst hk
  subst h
  exact (NFC_any 100000 stable_any l A cap w hl hC hr hR).mono fun _ _ ⟨g, c, he, ho, hb⟩ => ⟨_, c, he, ho, hb⟩
theorem NFD_own (l R : List Int) (A : Option Addr) (k cap : Nat) (w : World) (hk : l.length = k) (hl : k ≤ 1000) (hC : C32 l) (hr : Row w w.heap.size A (cl .i32 l)) (h : nfd l = R) : Calls Tryz.prog 15 #[.slice A k cap] w (MadeV w R) := by
  have hR := run200 hk hl
  subst hk
  subst h
  exact NFD_any 100000 stable_any l A cap w hl hC hr hR
theorem Same_glue (l : List Int) (A B : Option Addr) (n m c d : Nat) (w : World) (hn : l.length = n) (hm : l.length = m) (hn1 : n ≤ 1000000) (hra : Row w w.heap.size A (cl .i32 l)) (hrb : Row w w.heap.size B (cl .i32 l)) :
    Calls Tryz.prog 12 #[.slice A n c, .slice B m d] w (IsB true w) := by
  have := Same_any l l A B n m c d w hn hm hn1 (by omega) hra hrb
  rw [decide_eq_true rfl] at this
  exact this
theorem Is_row (l : List Int) (A : Option Addr) (k cap : Nat) (w : World) (hk : l.length = k) (hl : k ≤ 1000) (hC : C32 l) (hr : Row w w.heap.size A (cl .i32 l)) (h : nfc l = l) :
    Calls Tryz.prog 19 #[.slice A k cap] w (IsB true w) := by
  have hR := run200 hk hl
  subst hk
  have := Is_any 100000 stable_any l A cap w hl hC hr hR
  rw [decide_eq_true h] at this
  exact this
theorem Same_dec (a b : List Int) (q : Bool) (A B : Option Addr) (n m c d : Nat) (w : World) (hq : decide (a = b) = q) (hn : a.length = n) (hm : b.length = m) (hn1 : n ≤ 1000000) (hm1 : m ≤ 1000000) (hra : Row w w.heap.size A (cl .i32 a)) (hrb : Row w w.heap.size B (cl .i32 b)) :
    Calls Tryz.prog 12 #[.slice A n c, .slice B m d] w (IsB q w) := by
  subst hq
  exact Same_any a b A B n m c d w hn hm hn1 hm1 hra hrb
theorem in_len {l : List Int} {n : Nat} (hl : l.length = n) (h : n ≤ 200) : (nfd l).length ≤ 1000 := by rw [nfd_len]; have := dec_len l; omega
set_option maxRecDepth 100000 in
set_option maxHeartbeats 2000000 in
theorem walk (A : Option Addr) (n1 cap1 : Nat) (l : List Int) (B : Option Addr) (n2 cap2 : Nat) (o : List Int) (w : World) (hin : InRow .i32 w A n1 cap1 l) (hin2 : InRow .i32 w B n2 cap2 o) : Calls Tryz.prog 4 #[.slice A n1 cap1, .slice B n2 cap2] w fun e w' => e = .returned (.bool true) ∧ Below w.heap.size w w' := by
  obtain ⟨hlen, _, _, hrow, hwf⟩ := hin
  obtain ⟨hlen2, _, _, hrow2, hwf2⟩ := hin2
  obtain ⟨i0, hi, hz0, hz1, hz2⟩ := info_split info_int32
  by_cases h100 : 200 < n1
  · have h100z : (200 : Int) < (n1 : Int) := by omega
    go_enter Tryz.func4, Tryz.ntmps4
    go_wp2_with fail
    refine (awake_any _).mono ?_
    rintro e w90 ⟨rfl, hB90⟩
    go_wp2_with fail
    go_ret
    exact ⟨rfl, hB90⟩
  · have h100z : ¬ (200 : Int) < (n1 : Int) := by omega
    by_cases h200 : 200 < n2
    · have h200z : (200 : Int) < (n2 : Int) := by omega
      go_enter Tryz.func4, Tryz.ntmps4
      go_wp2_with fail
      refine (awake_any _).mono ?_
      rintro e w90 ⟨rfl, hB90⟩
      go_wp2_with fail
      go_ret
      exact ⟨rfl, hB90⟩
    · have h200z : ¬ (200 : Int) < (n2 : Int) := by omega
      have hcl := in_c32 hwf
      have hco := in_c32 hwf2
      have lD := in_len hlen (by omega)
      have lE := in_len hlen2 (by omega)
      have lC := nfc_le hcl
      have lF := nfc_le hco
      have H1 := Lib.hid (nfd_nfd hcl)
      have H2 := Lib.hid (nfc_nfc hcl)
      have H3 := Lib.hid (nfd_nfc hcl)
      have H4 := Lib.hid (nfc_nfd hcl)
      have hiff : decide (nfd l = nfd o) = decide (nfc l = nfc o) := by rw [decide_eq_decide]; exact same_iff hcl hco
      have HCL := Lib.hid hcl
      have HCO := Lib.hid hco
      have HCD := Lib.hid (nfd_c32 hcl)
      have HCC := Lib.hid (nfc_c32 hcl)
      have HL1 := Lib.hid hlen
      have HL2 := Lib.hid hlen2
      have hk1 : (cl .i32 l).length = n1 * 1 := by rw [Nat.mul_one, ← hlen]; simp [cl]
      obtain ⟨D, hD⟩ : ∃ D, nfd l = D := ⟨_, rfl⟩
      obtain ⟨C', hC'⟩ : ∃ C', nfc l = C' := ⟨_, rfl⟩
      obtain ⟨E', hE'⟩ : ∃ E', nfd o = E' := ⟨_, rfl⟩
      obtain ⟨F', hF'⟩ : ∃ F', nfc o = F' := ⟨_, rfl⟩
      rw [hD] at lD lC H1 H3 H4 hiff HCD
      rw [hC'] at lC H2 H3 H4 hiff HCC
      rw [hE'] at lE lF hiff
      rw [hF'] at lF hiff
      obtain ⟨q, hq⟩ : ∃ q, decide (D = E') = q := ⟨_, rfl⟩
      rw [hq] at hiff
      have HQ1 := Lib.hid hq
      have HQ2 := Lib.hid hiff.symm
      have ND := Lib.hid hD
      have NC := Lib.hid hC'
      have NE := Lib.hid hE'
      have NF := Lib.hid hF'
      have hlez : (C'.length : Int) ≤ (D.length : Int) := by omega
      clear hwf hwf2 hcl hco hlen hlen2 hD hC' hE' hF' hq hiff
      go_enter Tryz.func4, Tryz.ntmps4
      have hF0 := own_empty w w.heap.size 21 (Nat.le_refl _)
      have hF1 : Below w.heap.size w (w.alloc (.cells #[] 21)) := upA w _
      go_upto_region 5 with (first
        | (at_builtin; refine wpList_append_row _ rfl _ _ 22 rfl w.heap.size 21 i0 (.int .i32 0) 1 4 Tryz.underlying22 hi hz0 hz1 hz2 rfl (by decide) _ 0 [] rfl hF0 _ _ n1 _ (cl .i32 l) rfl hk1 (hrow.up hF1) (one_cl _ _) (by unfold maxLen; omega) (by omega) hF1.size ?_; intro v0 w0 hO0 hg0; have W0 : Below w.heap.size w w0 := hF1.grown hg0 hF1.size (fun j e => (hF0.lt j e).1); obtain ⟨Aw, cw, hv0⟩ := own_shape hO0; subst hv0)
        | fail)
      have rw0 := Row.of_own hO0
      rw [List.nil_append] at rw0
      have rl0 := hrow.up W0
      have ro0 := hrow2.up W0
      clear hO0 hg0 hF0 hF1 hk1
      go_wp2_with fail
      refine (NFD_own l D _ n1 _ _ HL1.out (by omega) HCL.out rl0 ND.out).mono ?_
      rintro e w1 ⟨A1, c1, rfl, ho1, hB1⟩
      have rl1 := rl0.up hB1
      have ro1 := ro0.up hB1
      have rw1 := rw0.up hB1
      have rd1 := Row.of_own ho1
      have W1 := upB W0 hB1
      clear rl0 ro0 rw0 W0 hB1 ho1
      go_wp2_with fail
      refine (NFC_own l C' _ n1 _ _ HL1.out (by omega) HCL.out rl1 NC.out).mono ?_
      rintro e w2 ⟨A2, c2, rfl, ho2, hB2⟩
      have rl2 := rl1.up hB2
      have ro2 := ro1.up hB2
      have rw2 := rw1.up hB2
      have rd2 := rd1.up hB2
      have rc2 := Row.of_own ho2
      have W2 := upB W1 hB2
      clear rl1 ro1 rw1 rd1 W1 hB2 ho2
      go_wp2_with fail
      refine (NFD_own o E' _ n2 _ _ HL2.out (by omega) HCO.out ro2 NE.out).mono ?_
      rintro e w3 ⟨A3, c3, rfl, ho3, hB3⟩
      have rl3 := rl2.up hB3
      have ro3 := ro2.up hB3
      have rw3 := rw2.up hB3
      have rd3 := rd2.up hB3
      have rc3 := rc2.up hB3
      have re3 := Row.of_own ho3
      have W3 := upB W2 hB3
      clear rl2 ro2 rw2 rd2 rc2 W2 hB3 ho3
      go_wp2_with fail
      refine (NFC_own o F' _ n2 _ _ HL2.out (by omega) HCO.out ro3 NF.out).mono ?_
      rintro e w4 ⟨A4, c4, rfl, ho4, hB4⟩
      have rl4 := rl3.up hB4
      have ro4 := ro3.up hB4
      have rw4 := rw3.up hB4
      have rd4 := rd3.up hB4
      have rc4 := rc3.up hB4
      have re4 := re3.up hB4
      have rf4 := Row.of_own ho4
      have W4 := upB W3 hB4
      clear rl3 ro3 rw3 rd3 rc3 re3 W3 hB4 ho4
      go_wp2_with fail
      refine (NFD_own D D _ D.length _ _ rfl (by omega) HCD.out rd4 H1.out).mono ?_
      rintro e w5 ⟨A5, c5, rfl, ho5, hB5⟩
      have rl5 := rl4.up hB5
      have ro5 := ro4.up hB5
      have rw5 := rw4.up hB5
      have rd5 := rd4.up hB5
      have rc5 := rc4.up hB5
      have re5 := re4.up hB5
      have rf5 := rf4.up hB5
      have rt5 := Row.of_own ho5
      have W5 := upB W4 hB5
      clear rl4 ro4 rw4 rd4 rc4 re4 rf4 W4 hB5 ho5
      go_wp2_with fail
      refine (Same_glue D _ _ _ _ _ _ _ rfl rfl (by omega) rt5 rd5).mono ?_
      rintro e w6 ⟨rfl, hB6⟩
      have rl6 := rl5.up hB6
      have ro6 := ro5.up hB6
      have rw6 := rw5.up hB6
      have rd6 := rd5.up hB6
      have rc6 := rc5.up hB6
      have re6 := re5.up hB6
      have rf6 := rf5.up hB6
      have rt6 := rt5.up hB6
      have W6 := upB W5 hB6
      clear rl5 ro5 rw5 rd5 rc5 re5 rf5 rt5 W5 hB6
      go_wp2_with fail
      refine (NFC_own C' C' _ C'.length _ _ rfl (by omega) HCC.out rc6 H2.out).mono ?_
      rintro e w7 ⟨A7, c7, rfl, ho7, hB7⟩
      have rl7 := rl6.up hB7
      have ro7 := ro6.up hB7
      have rw7 := rw6.up hB7
      have rd7 := rd6.up hB7
      have rc7 := rc6.up hB7
      have re7 := re6.up hB7
      have rf7 := rf6.up hB7
      have rt7 := rt6.up hB7
      have ru7 := Row.of_own ho7
      have W7 := upB W6 hB7
      clear rl6 ro6 rw6 rd6 rc6 re6 rf6 rt6 W6 hB7 ho7
      go_wp2_with fail
      refine (Same_glue C' _ _ _ _ _ _ _ rfl rfl (by omega) ru7 rc7).mono ?_
      rintro e w8 ⟨rfl, hB8⟩
      have rl8 := rl7.up hB8
      have ro8 := ro7.up hB8
      have rw8 := rw7.up hB8
      have rd8 := rd7.up hB8
      have rc8 := rc7.up hB8
      have re8 := re7.up hB8
      have rf8 := rf7.up hB8
      have rt8 := rt7.up hB8
      have ru8 := ru7.up hB8
      have W8 := upB W7 hB8
      clear rl7 ro7 rw7 rd7 rc7 re7 rf7 rt7 ru7 W7 hB8
      go_wp2_with fail
      refine (NFD_own C' D _ C'.length _ _ rfl (by omega) HCC.out rc8 H3.out).mono ?_
      rintro e w9 ⟨A9, c9, rfl, ho9, hB9⟩
      have rl9 := rl8.up hB9
      have ro9 := ro8.up hB9
      have rw9 := rw8.up hB9
      have rd9 := rd8.up hB9
      have rc9 := rc8.up hB9
      have re9 := re8.up hB9
      have rf9 := rf8.up hB9
      have rt9 := rt8.up hB9
      have ru9 := ru8.up hB9
      have rv9 := Row.of_own ho9
      have W9 := upB W8 hB9
      clear rl8 ro8 rw8 rd8 rc8 re8 rf8 rt8 ru8 W8 hB9 ho9
      go_wp2_with fail
      refine (Same_glue D _ _ _ _ _ _ _ rfl rfl (by omega) rv9 rd9).mono ?_
      rintro e w10 ⟨rfl, hB10⟩
      have rl10 := rl9.up hB10
      have ro10 := ro9.up hB10
      have rw10 := rw9.up hB10
      have rd10 := rd9.up hB10
      have rc10 := rc9.up hB10
      have re10 := re9.up hB10
      have rf10 := rf9.up hB10
      have rt10 := rt9.up hB10
      have ru10 := ru9.up hB10
      have rv10 := rv9.up hB10
      have W10 := upB W9 hB10
      clear rl9 ro9 rw9 rd9 rc9 re9 rf9 rt9 ru9 rv9 W9 hB10
      go_wp2_with fail
      refine (NFC_own D C' _ D.length _ _ rfl (by omega) HCD.out rd10 H4.out).mono ?_
      rintro e w11 ⟨A11, c11, rfl, ho11, hB11⟩
      have rl11 := rl10.up hB11
      have ro11 := ro10.up hB11
      have rw11 := rw10.up hB11
      have rd11 := rd10.up hB11
      have rc11 := rc10.up hB11
      have re11 := re10.up hB11
      have rf11 := rf10.up hB11
      have rt11 := rt10.up hB11
      have ru11 := ru10.up hB11
      have rv11 := rv10.up hB11
      have rx11 := Row.of_own ho11
      have W11 := upB W10 hB11
      clear rl10 ro10 rw10 rd10 rc10 re10 rf10 rt10 ru10 rv10 W10 hB11 ho11
      go_wp2_with fail
      refine (Same_glue C' _ _ _ _ _ _ _ rfl rfl (by omega) rx11 rc11).mono ?_
      rintro e w12 ⟨rfl, hB12⟩
      have rl12 := rl11.up hB12
      have ro12 := ro11.up hB12
      have rw12 := rw11.up hB12
      have rd12 := rd11.up hB12
      have rc12 := rc11.up hB12
      have re12 := re11.up hB12
      have rf12 := rf11.up hB12
      have rt12 := rt11.up hB12
      have ru12 := ru11.up hB12
      have rv12 := rv11.up hB12
      have rx12 := rx11.up hB12
      have W12 := upB W11 hB12
      clear rl11 ro11 rw11 rd11 rc11 re11 rf11 rt11 ru11 rv11 rx11 W11 hB12
      go_wp2_with fail
      refine (Same_dec D E' q _ _ _ _ _ _ _ HQ1.out rfl rfl (by omega) (by omega) rd12 re12).mono ?_
      rintro e w13 ⟨rfl, hB13⟩
      have rl13 := rl12.up hB13
      have ro13 := ro12.up hB13
      have rw13 := rw12.up hB13
      have rd13 := rd12.up hB13
      have rc13 := rc12.up hB13
      have re13 := re12.up hB13
      have rf13 := rf12.up hB13
      have rt13 := rt12.up hB13
      have ru13 := ru12.up hB13
      have rv13 := rv12.up hB13
      have rx13 := rx12.up hB13
      have W13 := upB W12 hB13
      clear rl12 ro12 rw12 rd12 rc12 re12 rf12 rt12 ru12 rv12 rx12 W12 hB13
      go_wp2_with fail
      refine (Same_dec C' F' q _ _ _ _ _ _ _ HQ2.out rfl rfl (by omega) (by omega) rc13 rf13).mono ?_
      rintro e w14 ⟨rfl, hB14⟩
      have rl14 := rl13.up hB14
      have ro14 := ro13.up hB14
      have rw14 := rw13.up hB14
      have rd14 := rd13.up hB14
      have rc14 := rc13.up hB14
      have re14 := re13.up hB14
      have rf14 := rf13.up hB14
      have rt14 := rt13.up hB14
      have ru14 := ru13.up hB14
      have rv14 := rv13.up hB14
      have rx14 := rx13.up hB14
      have W14 := upB W13 hB14
      clear rl13 ro13 rw13 rd13 rc13 re13 rf13 rt13 ru13 rv13 rx13 W13 hB14
      go_wp2_with fail
      refine (Is_row C' _ C'.length _ _ rfl (by omega) HCC.out rc14 H2.out).mono ?_
      rintro e w15 ⟨rfl, hB15⟩
      have rl15 := rl14.up hB15
      have ro15 := ro14.up hB15
      have rw15 := rw14.up hB15
      have rd15 := rd14.up hB15
      have rc15 := rc14.up hB15
      have re15 := re14.up hB15
      have rf15 := rf14.up hB15
      have rt15 := rt14.up hB15
      have ru15 := ru14.up hB15
      have rv15 := rv14.up hB15
      have rx15 := rx14.up hB15
      have W15 := upB W14 hB15
      clear rl14 ro14 rw14 rd14 rc14 re14 rf14 rt14 ru14 rv14 rx14 W14 hB15
      go_wp2_with fail
      refine (Same_glue l _ _ _ _ _ _ _ (by have := HL1.out; omega) (by have := HL1.out; omega) (by omega) rl15 rw15).mono ?_
      rintro e w16 ⟨rfl, hB16⟩
      have rl16 := rl15.up hB16
      have ro16 := ro15.up hB16
      have rw16 := rw15.up hB16
      have rd16 := rd15.up hB16
      have rc16 := rc15.up hB16
      have re16 := re15.up hB16
      have rf16 := rf15.up hB16
      have rt16 := rt15.up hB16
      have ru16 := ru15.up hB16
      have rv16 := rv15.up hB16
      have rx16 := rx15.up hB16
      have W16 := upB W15 hB16
      clear rl15 ro15 rw15 rd15 rc15 re15 rf15 rt15 ru15 rv15 rx15 W15 hB16
      go_wp2_with fail
      refine (awake_any _).mono ?_
      rintro e w90 ⟨rfl, hB90⟩
      go_wp2_with fail
      go_ret
      exact ⟨rfl, upB W16 hB90⟩

/-! From the walk to the given statement. -/
set_option linter.unusedVariables false
theorem own : ownKnob Tryz.prog.godebug = none := by kernel_rfl
theorem laidOut : laidOutB Tryz.prog = true := by kernel_rfl
set_option maxRecDepth 100000 in
theorem lifted (os : Os) (started : os.Started) (H : Type) (enc : TypeId × Value → H) :
    ReturnsInHanded {} Tryz.checked os 4 .any (fun w args => (Rows.normSameSpec.pre enc Tryz.prog Tryz.f4 [] false w args ∧ laidMetH Tryz.prog Rows.normSameRow.laid w) ∧ sizedMet enc Tryz.prog Tryz.f4 (OpenSpec.ofChange Rows.normSameSpec) false w args)
      (Rows.normSameSpec.post enc Tryz.prog Tryz.f4 false true false false) := by
  refine returnsInHanded_of_change_and (C := Tryz.checked) (X := fun w _ => laidMetH Tryz.prog Rows.normSameRow.laid w) (fun _ _ _ hh h => h.of_heap hh) own started (by kernel_rfl) Tryz.func4
    (ChangeSpec.witness_shaped (enc := enc) (C := Tryz.checked) (os := os) (X := fun w _ => laidMetH Tryz.prog Rows.normSameRow.laid w) false (World.laidAll Tryz.prog os Rows.normSameRow.laid) #[.slice none 0 0, .slice none 0 0] 8 (World.laidAll_os _ _ _)
      (World.shaped_of_ZipB (by kernel_rfl) (by kernel_rfl)) (by kernel_rfl) (by kernel_rfl) (by kernel_rfl)
      (by rw [MakeChecks.laidMetH_plain _ _ _ (by kernel_rfl)]; exact laidMet_laidAll _ (by kernel_rfl) (by kernel_rfl))) ?_
  intro W base args ds gs before hval0 hW _ _ hL _
  have hval : ∀ (j : Nat) t v, Tryz.f4.params[j]? = some t → args[j]? = some v → Value.okWide Tryz.prog W .any base t v := hval0
  have hW' := hW
  obtain ⟨p, q, hA0, hV, rfl, _, _⟩ := hW
  have hA : DataW.TrodAll enc Tryz.prog W 0 (fun _ => true) true Tryz.f4.params.toList args.toList ds p := hA0
  rw [Tryz.params4] at hA hval
  obtain ⟨v0, vs0, d0, ds0, p0, q0, hargs, rfl, rfl, h0, r0⟩ := trodAll_cons hA
  obtain ⟨v1, vs1, d1, ds1, p1, q1, rfl, rfl, rfl, h1, r1⟩ := trodAll_cons r0
  obtain ⟨rfl, rfl, rfl⟩ := trodAll_nil r1
  obtain rfl : args = #[v0, v1] := by cases args; simp_all
  obtain ⟨rfl, rfl⟩ := trodVars_none hV
  obtain ⟨a0, len0, cap0, rfl⟩ := okWide_slice Tryz.underlying22 (hval 0 22 v0 rfl rfl)
  have k0 := h0
  have lt0 : ∀ x ∈ p0, x.block < W.heap.size := by obtain ⟨m, hm⟩ := k0; exact DataW.trod_lt m _ _ _ hm
  obtain ⟨z0, w0⟩ := in_row Tryz.underlying22 Tryz.underlying21 (by kernel_rfl) h0
  obtain ⟨a1, len1, cap1, rfl⟩ := okWide_slice Tryz.underlying22 (hval 1 22 v1 rfl rfl)
  have k1 := h1
  have lt1 : ∀ x ∈ p1, x.block < W.heap.size := by obtain ⟨m, hm⟩ := k1; exact DataW.trod_lt m _ _ _ hm
  obtain ⟨z1, w1⟩ := in_row Tryz.underlying22 Tryz.underlying21 (by kernel_rfl) h1
  clear hA0 hval0
  refine (walk a0 len0 cap0 z0 a1 len1 cap1 z1 W w0 w1).mono fun e W' ⟨he, bel⟩ => ?_
  subst he
  exact ⟨_, rfl, _, _, _, [], _, [], hW', trodAll_mk1 (shut_bool Tryz.underlying4 _), (trodAll_cons_mk (Below.trod laidOut (by kernel_rfl) (of_decide_eq_true (by kernel_rfl)) k0 bel lt0) (trodAll_cons_mk (Below.trod laidOut (by kernel_rfl) (of_decide_eq_true (by kernel_rfl)) k1 bel lt1) trodAll_mk0)), rfl, bel.frame _, fun h => by cases h⟩

theorem row_holds : Rows.NormSameSaid :=
  OpenClaim.holds_of_wide 4 Tryz.f4 rfl rfl rfl rfl rfl rfl rfl ⟨rfl, rfl, rfl, rfl, rfl⟩ rfl rfl rfl rfl rfl (by kernel_rfl) Tryz.func4 (by kernel_rfl)
    (of_decide_eq_true (by kernel_rfl)) (by unfold Func.isWrapper; first | (rw [if_pos (by decide +kernel)]; kernel_rfl) | (rw [if_neg (by decide +kernel)]; exact ⟨rfl, rfl⟩))
    (fun os started H enc _ => lifted os started H enc)

theorem proved : Rows.NormSameCardSaid :=
  Claim7.holds_tied_plain_at .later [] [.data, .data, .data, .data, .sentinel, .sentinel, .pinned] true (true,"42a97f228551bc89a256fe65bf60eb17b654701c6bd6ee727805ac1dfa6e97bd") true
    row_holds (fun _ h => by cases h) (by kernel_rfl) (fun _ h => by cases h) normSame_row_tie rfl ⟨rfl, rfl⟩ (by kernel_rfl) rfl
    (fun f fn hf hfn => by
      obtain rfl : f = 4 := Option.some.inj ((show Tryz.prog.funcNamed "fascia/fascialaw05.NormSame" = some 4 by kernel_rfl).symm.trans hf) |>.symm
      obtain rfl : fn = Tryz.f4 := (Option.some.inj (Tryz.func4.symm.trans hfn)).symm
      exact ⟨by kernel_rfl, fun j t ht => by
        rw [Tryz.params4] at ht
        have hm : t ∈ [22, 22] := by simpa using Array.mem_of_getElem? ht
        have hall : ([22, 22].all fun u => !Tryz.prog.wantsStandIn u) = true := by kernel_rfl
        exact (show Tryz.prog.wantsStandIn t = false by simpa using List.all_eq_true.1 hall t hm)⟩)
    (by kernel_rfl)
end Go.Proofs.YtncnagagigalhaaGreatDoor.normSame
