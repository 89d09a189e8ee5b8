/-
  For any two of the ways to say a dot, any byte, and any text (up to 100 bytes): just six texts, in letters of either case, are dots: one, or two of them; a dot more, or any other byte, makes them none (fascialaw16.PathDots answers true). Conditions: those of the card (the variables that the row lists are laid as the program's text lays them).
-/
import Derived.Test.YtjkfppgekepbeaaDoorPthQ
import Derived.Test.YtjkfppgekepbeaaDoorFrame
import Derived.Deep.CutRange
import Derived.Deep.QuietTactic
import Derived.BigQuiet
import Derived.Test.YtjkfppgekepbeaaDoorFrame
import Derived.Test.YtjkfppgekepbeaaDoorTie
import Derived.Test.YtjkfppgekepbeaaDoorCards
import Derived.Test.YtjkfppgekepbeaaDoorPthZ
import Derived.ProofKit
import Derived.Lay
import Derived.Stop.Joined
import Derived.SevenTiedAt
namespace Go.Proofs.YtjkfppgekepbeaaDoor.pathDots
set_option maxRecDepth 100000
open Go.ChangeShapes Go.WideShapes Go.ChangeAt Go.RowKit Utf Ut Hst Pth
open Go.ChangeMaps (open_string shut_string)

set_option maxRecDepth 100000 in
set_option maxHeartbeats 8000000 in
theorem walk (a b c : Int) (s : ByteArray) (w : World) (ha0 : 0 ≤ a) (_ha1 : a ≤ 255) (hb0 : 0 ≤ b) (_hb1 : b ≤ 255) (hc0 : 0 ≤ c) (hc1 : c ≤ 255) (hs : s.size ≤ maxLen) (hE : Env w) : Calls Tryd.prog 7 #[.int .u8 a, .int .u8 b, .int .u8 c, .string s] w fun e w' => e = .returned (.bool true) ∧ Below w.heap.size w w' := by
  unfold maxLen at hs
  have HAW := Lib.hid (fun W => awake_any W)
  have HE := Lib.hid hE
  obtain ⟨r1, hr1, hr1', hr1c⟩ := mod3 a ha0
  obtain ⟨r2, hr2, hr2', hr2c⟩ := mod3 b hb0
  have HR := Lib.hid (And.intro (And.intro hr1 (And.intro hr1' hr1c)) (And.intro hr2 (And.intro hr2' hr2c)))
  clear hr1 hr1' hr1c hr2 hr2' hr2c hE
  have hB0 := upA w (.cells #[.string ⟨#[46]⟩, .string ⟨#[37, 50, 101]⟩, .string ⟨#[37, 50, 69]⟩] 9)
  have HB0 := Lib.hid hB0
  clear hB0
  go_enter Tryd.func7, Tryd.ntmps7
  go_upto_region 2 with fail
  go_cut [10, 11] from 15 to 24 (fun s10 s11 wx => ∃ x y : ByteArray, s10 = .string x ∧ s11 = .string y ∧ (DotT x ∧ DotT y) ∧ Hid (Below w.heap.size w wx))
  case first =>
    obtain ⟨⟨hr1, hr1', hr1c⟩, ⟨hr2, hr2', hr2c⟩⟩ := HR.out
    rcases hr1c with rfl | rfl | rfl <;> rcases hr2c with rfl | rfl | rfl
    all_goals
      go_quiet (fail)
      have hB7 := HB0.out.trans ((Hst.below_drewN _ nq).mono HB0.out.size)
      go_wp2_with fail
      go_meet
      exact ⟨_, _, rfl, rfl, ⟨by unfold DotT; simp, by unfold DotT; simp⟩, Lib.hid hB7⟩
  case rest =>
    obtain ⟨x, y, rfl, rfl, ⟨hx, hy⟩, HB1⟩ := hcut
    rename World => w1
    have hsx := hx.size
    have hsy := hy.size
    obtain ⟨cn, rfl⟩ := Int.eq_ofNat_of_zero_le hc0
    have hcn : cn < 256 := by omega
    obtain ⟨f1, f2, f3, f4, f5⟩ := dot_xy hx hy
    have hB1 := HB1.out
    have H1 := Lib.hid (fun W (h : Below w.heap.size w W) => Sg_any x (by omega) W (HE.out.go h))
    have H2 := Lib.hid (fun W (h : Below w.heap.size w W) => Db_any x (by omega) W (HE.out.go h))
    have hxy : (x ++ y).size = x.size + y.size := by simp
    have hxyx : (x ++ y ++ x).size = x.size + y.size + x.size := by simp
    have H3 := Lib.hid (fun W (h : Below w.heap.size w W) => Db_any (x ++ y) (by omega) W (HE.out.go h))
    have H4 := Lib.hid (fun W (h : Below w.heap.size w W) => Sg_any (x ++ y) (by omega) W (HE.out.go h))
    have H5 := Lib.hid (fun W (h : Below w.heap.size w W) => Sg_any ⟨#[]⟩ (by decide) W (HE.out.go h))
    have H6 := Lib.hid (fun W (h : Below w.heap.size w W) => Db_any ⟨#[]⟩ (by decide) W (HE.out.go h))
    have H7 := Lib.hid (fun W (h : Below w.heap.size w W) => Db_any (x ++ y ++ x) (by omega) W (HE.out.go h))
    rw [f1] at H1
    rw [f2] at H2
    rw [f3] at H3
    rw [f4] at H4
    rw [dot_none.1] at H5
    rw [dot_none.2] at H6
    rw [f5] at H7
    have HX := Lib.hid (And.intro hx hy)
    have hcv : (convert 40 9 (.slice (some ⟨w1.heap.size, 0, none⟩) 1 1)).run Tryd.prog (w1.alloc (.cells #[.int .u8 (cn : Int)] 5)) = .ok (.string (odd cn)) (w1.alloc (.cells #[.int .u8 (cn : Int)] 5)) :=
      conv_row (xs := [(cn : Int)]) (c := 1) rfl (row_new w1 #[.int .u8 (cn : Int)] 5 [.int .u8 (cn : Int)] rfl)
    have hB2 := upB hB1 (upA w1 (.cells #[.int .u8 (cn : Int)] 5))
    have hso : (odd cn).size = 1 := rfl
    obtain ⟨O, hO⟩ : ∃ O, odd cn = O := ⟨_, rfl⟩
    rw [hO] at hcv hso
    have HO := Lib.hid hO
    have HB2 := Lib.hid hB2
    clear f1 f2 f3 f4 f5 hx hy hO hB1 hxy hxyx hB2
    go_upto_region 4 with fail
    have hR := HB2.out
    go_upto_region 6 with (first
      | (go_at_call 10; ((with_reducible refine (H1.out _ hR).mono ?_); rintro e wz ⟨rfl, hb⟩; replace hR := upB hR hb; clear hb))
      | (go_at_call 12; ((with_reducible refine (H2.out _ hR).mono ?_); rintro e wz ⟨rfl, hb⟩; replace hR := upB hR hb; clear hb))
      | (go_at_call 12; ((with_reducible refine (H3.out _ hR).mono ?_); rintro e wz ⟨rfl, hb⟩; replace hR := upB hR hb; clear hb))
      | (go_at_call 10; ((with_reducible refine (H4.out _ hR).mono ?_); rintro e wz ⟨rfl, hb⟩; replace hR := upB hR hb; clear hb))
      | (go_at_call 10; ((with_reducible refine (H5.out _ hR).mono ?_); rintro e wz ⟨rfl, hb⟩; replace hR := upB hR hb; clear hb))
      | (go_at_call 12; ((with_reducible refine (H6.out _ hR).mono ?_); rintro e wz ⟨rfl, hb⟩; replace hR := upB hR hb; clear hb))
      | (go_at_call 12; ((with_reducible refine (H7.out _ hR).mono ?_); rintro e wz ⟨rfl, hb⟩; replace hR := upB hR hb; clear hb))
      | fail)
    have HB3 := Lib.hid hR
    clear hR H1 H2 H3 H4 H5 H6 H7
    have hso1 : (x ++ O).size = x.size + O.size := by simp
    have hso2 : (O ++ y).size = O.size + y.size := by simp
    have G1 := Lib.hid (fun W (h : Below w.heap.size w W) => Sg_any O (by omega) W (HE.out.go h))
    have G2 := Lib.hid (fun W (h : Below w.heap.size w W) => Db_any (x ++ O) (by omega) W (HE.out.go h))
    have G3 := Lib.hid (fun W (h : Below w.heap.size w W) => Db_any (O ++ y) (by omega) W (HE.out.go h))
    have G4 := Lib.hid (fun W (h : Below w.heap.size w W) => Sg_any (x ++ O) (by omega) W (HE.out.go h))
    have HOD := Lib.hid (fun h46 => dot_odd HX.out.1 HX.out.2 hcn h46)
    rw [HO.out] at HOD
    clear hso1 hso2
    go_cut [85] from 62 to 84 (fun s85 wx => s85 = .bool false ∧ Hid (Below w.heap.size w wx))
    case first =>
      by_cases h46 : cn = 46
      · have e1 : ((cn : Int) == 46) = true := by rw [h46]; rfl
        have e2 : ((cn : Int) != 46) = false := by rw [h46]; rfl
        clear h46
        go_wp2_with fail
        go_meet
        exact ⟨rfl, HB3⟩
      · have e1 : ((cn : Int) == 46) = false := by rw [beq_eq_false_iff_ne]; omega
        have e2 : ((cn : Int) != 46) = true := by rw [bne_iff_ne]; omega
        obtain ⟨f1, f2, f3, f4⟩ := HOD.out h46
        rw [f1] at G1
        rw [f2] at G2
        rw [f3] at G3
        rw [f4] at G4
        have hR := HB3.out
        clear h46 f1 f2 f3 f4
        go_wp2_with (first
          | (go_at_call 10; ((with_reducible refine (G1.out _ hR).mono ?_); rintro e wz ⟨rfl, hb⟩; replace hR := upB hR hb; clear hb))
          | (go_at_call 12; ((with_reducible refine (G2.out _ hR).mono ?_); rintro e wz ⟨rfl, hb⟩; replace hR := upB hR hb; clear hb))
          | (go_at_call 12; ((with_reducible refine (G3.out _ hR).mono ?_); rintro e wz ⟨rfl, hb⟩; replace hR := upB hR hb; clear hb))
          | (go_at_call 10; ((with_reducible refine (G4.out _ hR).mono ?_); rintro e wz ⟨rfl, hb⟩; replace hR := upB hR hb; clear hb))
          | fail)
        go_meet
        exact ⟨rfl, Lib.hid hR⟩
    case rest =>
      obtain ⟨rfl, HB4⟩ := hcut
      rename World => w4
      clear G1 G2 G3 G4 HOD HB3 HB2 HB1 hcv
      by_cases h100 : 100 < s.size
      · have hz : (100 : Int) < (s.size : Int) := by omega
        go_wp2_with (first | (go_at_call 9; refine (HAW.out _).mono ?_; rintro e w5 ⟨rfl, hB5⟩) | fail)
        go_ret
        exact ⟨rfl, upB HB4.out hB5⟩
      · have hz : ¬ (100 : Int) < (s.size : Int) := by omega
        have hLow : ∀ W, Below w.heap.size w W → LowIs s (Lib.toLowerD (dl s)) W := fun W h => low_all (by omega) (fun W' h' => ((HE.out.go h).go h').case)
        have hdl := low_len (dl s)
        have hds : (dl s).length = s.size := by simp [dl]
        obtain ⟨D, hD⟩ : ∃ D, Lib.toLowerD (dl s) = D := ⟨_, rfl⟩
        rw [hD] at hLow hdl
        have K1 := Lib.hid (fun W (h : Below w.heap.size w W) => hLow W h W (Below.refl _ _))
        have K2 := Lib.hid (fun W (h : Below w.heap.size w W) => Replace_any D (by omega) W (HE.out.go h))
        have K3 := Lib.hid (fun W (h : Below w.heap.size w W) => Single_low (hLow W h))
        have K4 := Lib.hid (fun W (h : Below w.heap.size w W) => Double_low (hLow W h))
        have HR1 := Lib.hid (fun h : oneL D = true => rep_one h)
        have HR2 := Lib.hid (fun h : twoL D = true => rep_two h)
        obtain ⟨R, hRR⟩ : ∃ R, Lib.replaceAll D [37, 50, 101] [46] = R := ⟨_, rfl⟩
        rw [hRR] at K2 HR1 HR2
        have hq1 := arr_beq R [46]
        have hq2 := arr_beq R [46, 46]
        obtain ⟨RR, hr2⟩ : ∃ r, (⟨R.toArray⟩ : ByteArray) = r := ⟨_, rfl⟩
        rw [hr2] at K2 hq1 hq2
        obtain ⟨DD, hd2⟩ : ∃ d, (⟨D.toArray⟩ : ByteArray) = d := ⟨_, rfl⟩
        rw [hd2] at K1 K2
        obtain ⟨p, hp⟩ : ∃ p, oneL D = p := ⟨_, rfl⟩
        obtain ⟨q, hq⟩ : ∃ q, twoL D = q := ⟨_, rfl⟩
        rw [hp] at K3 HR1
        rw [hq] at K4 HR2
        have HQ1 : Hid (p = true → (RR.toList == ([46] : List UInt8)) = true) := Lib.hid (fun h => by rw [hq1, HR1.out h]; rfl)
        have HQ2 : Hid (q = true → (RR.toList == ([46, 46] : List UInt8)) = true) := Lib.hid (fun h => by rw [hq2, HR2.out h]; rfl)
        have hR := HB4.out
        clear hLow hdl hds hD hRR hr2 hd2 hp hq hq1 hq2 HR1 HR2 h100
        cases p <;> cases q
        · go_wp2_with (first
            | (go_at_call 27; refine (K1.out _ hR).mono ?_; rintro e wz ⟨rfl, hb⟩; replace hR := upB hR hb; clear hb)
            | (go_at_call 26; refine (K2.out _ hR).mono ?_; rintro e wz ⟨rfl, hb⟩; replace hR := upB hR hb; clear hb)
            | (go_at_call 10; refine (K3.out _ hR).mono ?_; rintro e wz ⟨rfl, hb⟩; replace hR := upB hR hb; clear hb)
            | (go_at_call 12; refine (K4.out _ hR).mono ?_; rintro e wz ⟨rfl, hb⟩; replace hR := upB hR hb; clear hb)
            | (go_at_call 9; refine (HAW.out _).mono ?_; rintro e wz ⟨rfl, hb⟩; replace hR := upB hR hb; clear hb)
            | fail)
          go_ret
          exact ⟨rfl, hR⟩
        · have hq2 := HQ2.out rfl
          go_wp2_with (first
            | (go_at_call 27; refine (K1.out _ hR).mono ?_; rintro e wz ⟨rfl, hb⟩; replace hR := upB hR hb; clear hb)
            | (go_at_call 26; refine (K2.out _ hR).mono ?_; rintro e wz ⟨rfl, hb⟩; replace hR := upB hR hb; clear hb)
            | (go_at_call 10; refine (K3.out _ hR).mono ?_; rintro e wz ⟨rfl, hb⟩; replace hR := upB hR hb; clear hb)
            | (go_at_call 12; refine (K4.out _ hR).mono ?_; rintro e wz ⟨rfl, hb⟩; replace hR := upB hR hb; clear hb)
            | (go_at_call 9; refine (HAW.out _).mono ?_; rintro e wz ⟨rfl, hb⟩; replace hR := upB hR hb; clear hb)
            | fail)
          go_ret
          exact ⟨rfl, hR⟩
        · have hq1 := HQ1.out rfl
          go_wp2_with (first
            | (go_at_call 27; refine (K1.out _ hR).mono ?_; rintro e wz ⟨rfl, hb⟩; replace hR := upB hR hb; clear hb)
            | (go_at_call 26; refine (K2.out _ hR).mono ?_; rintro e wz ⟨rfl, hb⟩; replace hR := upB hR hb; clear hb)
            | (go_at_call 10; refine (K3.out _ hR).mono ?_; rintro e wz ⟨rfl, hb⟩; replace hR := upB hR hb; clear hb)
            | (go_at_call 12; refine (K4.out _ hR).mono ?_; rintro e wz ⟨rfl, hb⟩; replace hR := upB hR hb; clear hb)
            | (go_at_call 9; refine (HAW.out _).mono ?_; rintro e wz ⟨rfl, hb⟩; replace hR := upB hR hb; clear hb)
            | fail)
          go_ret
          exact ⟨rfl, hR⟩
        · have hq1 := HQ1.out rfl
          have hq2 := HQ2.out rfl
          go_wp2_with (first
            | (go_at_call 27; refine (K1.out _ hR).mono ?_; rintro e wz ⟨rfl, hb⟩; replace hR := upB hR hb; clear hb)
            | (go_at_call 26; refine (K2.out _ hR).mono ?_; rintro e wz ⟨rfl, hb⟩; replace hR := upB hR hb; clear hb)
            | (go_at_call 10; refine (K3.out _ hR).mono ?_; rintro e wz ⟨rfl, hb⟩; replace hR := upB hR hb; clear hb)
            | (go_at_call 12; refine (K4.out _ hR).mono ?_; rintro e wz ⟨rfl, hb⟩; replace hR := upB hR hb; clear hb)
            | (go_at_call 9; refine (HAW.out _).mono ?_; rintro e wz ⟨rfl, hb⟩; replace hR := upB hR hb; clear hb)
            | fail)
          go_ret
          exact ⟨rfl, hR⟩

/-! From the walk to the given statement. -/
set_option linter.unusedVariables false
theorem own : ownKnob Tryd.prog.godebug = none := by kernel_rfl
theorem laidOut : laidOutB Tryd.prog = true := by kernel_rfl
set_option maxRecDepth 100000 in
theorem lifted (os : Os) (started : os.Started) (H : Type) (enc : TypeId × Value → H) :
    ReturnsInHanded {} Tryd.checked os 7 .any (fun w args => (Rows.pathDotsSpec.pre enc Tryd.prog Tryd.f7 [] false w args ∧ laidMetH Tryd.prog Rows.pathDotsRow.laid w) ∧ sizedMet enc Tryd.prog Tryd.f7 (OpenSpec.ofChange Rows.pathDotsSpec) false w args)
      (Rows.pathDotsSpec.post enc Tryd.prog Tryd.f7 false true false false) := by
  refine returnsIn_and_shaped (C := Tryd.checked) (X := fun w _ => laidMetH Tryd.prog Rows.pathDotsRow.laid w) (fun _ _ _ hh h => h.of_heap hh) own started (by kernel_rfl) Tryd.func7
    (ChangeSpec.witness_shaped (enc := enc) (C := Tryd.checked) (os := os) (X := fun w _ => laidMetH Tryd.prog Rows.pathDotsRow.laid w) false (World.laidAll Tryd.prog os Rows.pathDotsRow.laid) #[.int .u8 0, .int .u8 0, .int .u8 0, .string .empty] 8 (World.laidAll_os _ _ _)
      (World.shaped_of_ZipB (by kernel_rfl) (by kernel_rfl)) (by kernel_rfl) (by kernel_rfl) (by kernel_rfl)
      (by rw [MakeChecks.laidMetH_plain _ _ _ (by kernel_rfl)]; exact laidMet_laidAll _ (by kernel_rfl) (by kernel_rfl))) ?_
  intro W base args ds gs before hval0 hW _ _ hL hsh _
  have hval : ∀ (j : Nat) t v, Tryd.f7.params[j]? = some t → args[j]? = some v → Value.okWide Tryd.prog W .any base t v := hval0
  have hW' := hW
  obtain ⟨p, q, hA0, hV, rfl, _, _⟩ := hW
  have hA : DataW.TrodAll enc Tryd.prog W 0 (fun _ => true) true Tryd.f7.params.toList args.toList ds p := hA0
  rw [Tryd.params7] at hA hval
  obtain ⟨v0, vs0, d0, ds0, p0, q0, hargs, rfl, rfl, h0, r0⟩ := trodAll_cons hA
  obtain ⟨v1, vs1, d1, ds1, p1, q1, rfl, rfl, rfl, h1, r1⟩ := trodAll_cons r0
  obtain ⟨v2, vs2, d2, ds2, p2, q2, rfl, rfl, rfl, h2, r2⟩ := trodAll_cons r1
  obtain ⟨v3, vs3, d3, ds3, p3, q3, rfl, rfl, rfl, h3, r3⟩ := trodAll_cons r2
  obtain ⟨rfl, rfl, rfl⟩ := trodAll_nil r3
  obtain rfl : args = #[v0, v1, v2, v3] := by cases args; simp_all
  obtain ⟨rfl, rfl⟩ := trodVars_none hV
  obtain ⟨a0, rfl, rfl, rfl, w0⟩ := open_int Tryd.underlying5 (hval 0 5 v0 rfl rfl) h0
  have b0 : 0 ≤ a0 ∧ a0 ≤ 255 := by simpa [Lit.wf, IntKind.min, IntKind.max, IntKind.signed, IntKind.bits] using w0
  obtain ⟨a1, rfl, rfl, rfl, w1⟩ := open_int Tryd.underlying5 (hval 1 5 v1 rfl rfl) h1
  have b1 : 0 ≤ a1 ∧ a1 ≤ 255 := by simpa [Lit.wf, IntKind.min, IntKind.max, IntKind.signed, IntKind.bits] using w1
  obtain ⟨a2, rfl, rfl, rfl, w2⟩ := open_int Tryd.underlying5 (hval 2 5 v2 rfl rfl) h2
  have b2 : 0 ≤ a2 ∧ a2 ≤ 255 := by simpa [Lit.wf, IntKind.min, IntKind.max, IntKind.signed, IntKind.bits] using w2
  obtain ⟨a3, rfl, rfl, rfl, w3⟩ := open_string Tryd.underlying9 (hval 3 9 v3 rfl rfl) h3
  clear hA0 hval0
  rw [MakeChecks.laidMetH_plain _ _ _ (by kernel_rfl)] at hL
  have hEnv : Env W := env_of hsh (Lib.laidMet.reads hL (.head _)) (Lib.laidMet.reads hL (.tail _ (.head _))) (Lib.laidMet.reads hL (.tail _ (.tail _ (.head _))))
  refine (walk a0 a1 a2 a3 W b0.1 b0.2 b1.1 b1.2 b2.1 b2.2 w3 hEnv).mono fun e W' ⟨he, bel⟩ => ?_
  subst he
  exact ⟨_, rfl, _, _, _, [], _, [], hW', trodAll_mk1 (shut_bool Tryd.underlying4 _), (trodAll_cons_mk (shut_int Tryd.underlying5 w0) (trodAll_cons_mk (shut_int Tryd.underlying5 w1) (trodAll_cons_mk (shut_int Tryd.underlying5 w2) (trodAll_cons_mk (shut_string Tryd.underlying9 w3) trodAll_mk0)))), rfl, bel.frame _, fun h => by cases h⟩

theorem row_holds : Rows.PathDotsSaid :=
  OpenClaim.holds_of_wide 7 Tryd.f7 rfl rfl rfl rfl rfl rfl rfl ⟨rfl, rfl, rfl, rfl, rfl⟩ rfl rfl rfl rfl rfl (by kernel_rfl) Tryd.func7 (by kernel_rfl)
    (of_decide_eq_true (by kernel_rfl)) (by unfold Func.isWrapper; first | (rw [if_pos (by decide +kernel)]; kernel_rfl) | (rw [if_neg (by decide +kernel)]; exact ⟨rfl, rfl⟩))
    (fun os started H enc _ => lifted os started H enc)

theorem proved : Rows.PathDotsCardSaid :=
  Claim7.holds_tied_plain_at .later [] [.data, .pinned, .pinned] true (true, "096174d399074f8f904a42b2286baa8b454bcc68437828faff9a89272ecf41e2") false
    row_holds (fun _ h => by cases h) (by kernel_rfl) (fun _ h => by cases h) pathDots_row_tie rfl ⟨rfl, rfl⟩ (by kernel_rfl) rfl
    (fun f fn hf hfn => by
      obtain rfl : f = 7 := Option.some.inj ((show Tryd.prog.funcNamed "fascia/fascialaw16.PathDots" = some 7 by kernel_rfl).symm.trans hf) |>.symm
      obtain rfl : fn = Tryd.f7 := (Option.some.inj (Tryd.func7.symm.trans hfn)).symm
      exact ⟨by kernel_rfl, fun j t ht => by
        rw [Tryd.params7] at ht
        have hm : t ∈ [5, 5, 5, 9] := by simpa using Array.mem_of_getElem? ht
        have hall : ([5, 5, 5, 9].all fun u => !Tryd.prog.wantsStandIn u) = true := by kernel_rfl
        exact (show Tryd.prog.wantsStandIn t = false by simpa using List.all_eq_true.1 hall t hm)⟩)
    (by kernel_rfl)
end Go.Proofs.YtjkfppgekepbeaaDoor.pathDots
