/-
  For any text (up to 100 bytes), any code points (up to 300), any scheme (up to 20 bytes) and any path (up to 60 segments of up to 100 bytes): what is one dot, or two, a drive, or begins with one, a path that is shortened, and one behind a walk, are as the document's own answer says, and what was handed in stays (fascialaw16.PathTells answers true). Conditions: those of the card (the variables that the row lists are laid as the program's text lays them).
-/
import Derived.Test.YtjkfppgekepbeaaDoorPthRF
import Derived.Test.YtjkfppgekepbeaaDoorFrame
import Derived.Deep.CutRange
import Derived.Test.YtjkfppgekepbeaaDoorFrame
import Derived.Test.YtjkfppgekepbeaaDoorTie
import Derived.Test.YtjkfppgekepbeaaDoorCards
import Derived.Test.YtjkfppgekepbeaaDoorPthZ
import Derived.ProofKit
import Derived.Lay
import Derived.Stop.Joined
import Derived.SevenTiedAt
namespace Go.Proofs.YtjkfppgekepbeaaDoor.pathTells
set_option maxRecDepth 100000
open Go.ChangeShapes Go.WideShapes Go.ChangeAt Go.RowKit Utf Ut Hst Pth
open Go.ChangeMaps (open_string shut_string)

set_option maxRecDepth 100000 in
set_option maxHeartbeats 8000000 in
theorem walk (s : ByteArray) (A : Option Addr) (n cap : Nat) (l : List Int) (sc : ByteArray) (A2 : Option Addr) (n2 cap2 : Nat) (ys : List ByteArray) (w : World) (_hs : s.size ≤ maxLen) (hin : InRow .i32 w A n cap l) (hsc : sc.size ≤ maxLen) (hin2 : InTexts w A2 n2 cap2 ys) (hE : Env w) : Calls Tryd.prog 3 #[.string s, .slice A n cap, .string sc, .slice A2 n2 cap2] w fun e w' => e = .returned (.bool true) ∧ Below w.heap.size w w' := by
  obtain ⟨hlen, hcap, _, hrow, _⟩ := hin
  obtain ⟨hlen2, hcap2, hcm2, hrow2, _⟩ := hin2
  have HAW := Lib.hid (fun W => awake_any W)
  have HFE := Lib.hid (Few_any ys A2 n2 cap2 w hlen2 (by omega) hrow2)
  by_cases h1 : 100 < s.size
  · have hz1 : (100 : Int) < (s.size : Int) := by omega
    clear hrow hrow2 hE
    go_enter Tryd.func3, Tryd.ntmps3
    go_wp2_with (first
      | (go_at_call 8; refine HFE.out.mono ?_; rintro e w1 ⟨rfl, rfl⟩)
      | (go_at_call 9; refine (HAW.out _).mono ?_; rintro e w2 ⟨rfl, hB2⟩)
      | fail)
    go_ret
    exact ⟨rfl, hB2⟩
  have hz1 : ¬ (100 : Int) < (s.size : Int) := by omega
  by_cases h2 : 300 < n
  · have hz2 : (300 : Int) < (n : Int) := by omega
    clear hrow hrow2 hE
    go_enter Tryd.func3, Tryd.ntmps3
    go_wp2_with (first
      | (go_at_call 8; refine HFE.out.mono ?_; rintro e w1 ⟨rfl, rfl⟩)
      | (go_at_call 9; refine (HAW.out _).mono ?_; rintro e w2 ⟨rfl, hB2⟩)
      | fail)
    go_ret
    exact ⟨rfl, hB2⟩
  have hz2 : ¬ (300 : Int) < (n : Int) := by omega
  by_cases h3 : 20 < sc.size
  · have hz3 : (20 : Int) < (sc.size : Int) := by omega
    clear hrow hrow2 hE
    go_enter Tryd.func3, Tryd.ntmps3
    go_wp2_with (first
      | (go_at_call 8; refine HFE.out.mono ?_; rintro e w1 ⟨rfl, rfl⟩)
      | (go_at_call 9; refine (HAW.out _).mono ?_; rintro e w2 ⟨rfl, hB2⟩)
      | fail)
    go_ret
    exact ⟨rfl, hB2⟩
  have hz3 : ¬ (20 : Int) < (sc.size : Int) := by omega
  cases hf : few ys with
  | false =>
    rw [hf] at HFE
    clear hrow hrow2 hE hf
    go_enter Tryd.func3, Tryd.ntmps3
    go_wp2_with (first
      | (go_at_call 8; refine HFE.out.mono ?_; rintro e w1 ⟨rfl, rfl⟩)
      | (go_at_call 9; refine (HAW.out _).mono ?_; rintro e w2 ⟨rfl, hB2⟩)
      | fail)
    go_ret
    exact ⟨rfl, hB2⟩
  | true =>
    rw [hf] at HFE
    obtain ⟨_, h60⟩ := few_all hf
    have hn60 : n2 ≤ 60 := by omega
    have HE := Lib.hid hE
    have hO0 := own_made (w := w) (t := 9)
    have hB0 := upA w (.cells #[] 9)
    have HO0 := Lib.hid hO0
    have HB0 := Lib.hid hB0
    have HR0 := Lib.hid ((hrow2.below hB0).mono hB0.size)
    have HR := Lib.hid (fun W (h : Below w.heap.size w W) => (hrow.below h).mono h.size)
    have HR2 := Lib.hid (fun W (h : Below w.heap.size w W) => (hrow2.below h).mono h.size)
    have HN := Lib.hid hlen
    have HN2 := Lib.hid hlen2
    have HC := Lib.hid hcap
    have HC2 := Lib.hid hcap2
    have K1 := Lib.hid (fun W (h : Below w.heap.size w W) => Sg_any s (by omega) W (HE.out.go h))
    have K2 := Lib.hid (fun W => RSingle_any s (by omega) W)
    have K3 := Lib.hid (fun W (h : Below w.heap.size w W) => Db_any s (by omega) W (HE.out.go h))
    have K4 := Lib.hid (fun W => RDouble_any s (by omega) W)
    have K5 := Lib.hid (fun W (h : Below w.heap.size w W) => Drive_any l A n cap W HN.out (HR.out W h))
    have K6 := Lib.hid (fun W (h : Below w.heap.size w W) => RDrive_any l A n cap W HN.out (HR.out W h))
    have K7 := Lib.hid (fun W (h : Below w.heap.size w W) => Begins_any l A n cap W HN.out HC.out (HR.out W h))
    have K8 := Lib.hid (fun W (h : Below w.heap.size w W) => RBegins_any l A n cap W HN.out HC.out (HR.out W h))
    have K9 := Lib.hid (fun A1 c1 W (hc : n2 ≤ c1) (hr : Row W W.heap.size A1 (sx ys)) => Shorten_any sc ys A1 n2 c1 W HN2.out hc (by omega) hr)
    have K10 := Lib.hid (fun W (h : Below w.heap.size w W) => RShorten_any sc ys A2 n2 cap2 W HN2.out HC2.out (by omega) (HR2.out W h))
    have K11 := Lib.hid (fun A1 c1 W (h : Below w.heap.size w W) (hr : Row W W.heap.size A1 (sx ys)) => Walk_any sc hsc ys A1 n2 c1 l A n cap W HN2.out (by omega) HN.out HC.out (by omega) hr (HR.out W h))
    have K12 := Lib.hid (fun W (h : Below w.heap.size w W) => RWalk_any sc ys A2 n2 cap2 l A n cap W HN2.out (by omega) HN.out HC.out (by omega) (HR2.out W h) (HR.out W h))
    have TT := Lib.hid (fun (P : List ByteArray) A1 A3 k c1 c3 W (hk : P.length = k) (hk1 : k ≤ 1000000) (h1 : Row W W.heap.size A1 (sx P)) (h2 : Row W W.heap.size A3 (sx P)) => Texts_any P P A1 A3 k k c1 c3 W hk hk hk1 hk1 h1 h2)
    have hsl := shr_le (fil sc) ys
    have hwl := wlk_len (spc sc) (fil sc) ys l
    unfold MadeTexts at K9 K10 K11 K12
    obtain ⟨P, hP⟩ : ∃ P, shr (fil sc) ys = P := ⟨_, rfl⟩
    obtain ⟨G, hG⟩ : ∃ G, wlk (spc sc) (fil sc) ys l = G := ⟨_, rfl⟩
    rw [hP] at K9 K10 hsl
    rw [hG] at K11 K12 hwl
    obtain ⟨p, hp⟩ : ∃ p, P.length = p := ⟨_, rfl⟩
    obtain ⟨g, hg⟩ : ∃ g, G.length = g := ⟨_, rfl⟩
    rw [hp] at K9 K10 hsl
    rw [hg] at K11 K12 hwl
    have T1 := Lib.hid (fun A1 A3 c1 c3 W h1 h2 => TT.out P A1 A3 p c1 c3 W hp (by omega) h1 h2)
    have T2 := Lib.hid (fun A1 A3 c1 c3 W h1 h2 => TT.out G A1 A3 g c1 c3 W hg (by omega) h1 h2)
    have T3 := Lib.hid (fun A1 A3 c1 c3 W h1 h2 => TT.out ys A1 A3 n2 c1 c3 W HN2.out (by omega) h1 h2)
    simp only [decide_true] at T1 T2 T3
    obtain ⟨b1, hb1⟩ : ∃ b, sgA s = b := ⟨_, rfl⟩
    obtain ⟨b2, hb2⟩ : ∃ b, dbA s = b := ⟨_, rfl⟩
    obtain ⟨b3, hb3⟩ : ∃ b, drv l = b := ⟨_, rfl⟩
    obtain ⟨b4, hb4⟩ : ∃ b, bgn l = b := ⟨_, rfl⟩
    rw [hb1] at K1 K2
    rw [hb2] at K3 K4
    rw [hb3] at K5 K6
    rw [hb4] at K7 K8
    have e1 : (b1 == b1) = true := by cases b1 <;> rfl
    have e2 : (b2 == b2) = true := by cases b2 <;> rfl
    have e3 : (b3 == b3) = true := by cases b3 <;> rfl
    have e4 : (b4 == b4) = true := by cases b4 <;> rfl
    clear hlen hlen2 hcap hcap2 hcm2 hrow hrow2 hE hf hO0 hB0 hP hG hp hg hb1 hb2 hb3 hb4 h1 h2 h3 h60 hsl hwl TT HAW
    have HAW := Lib.hid (fun W => awake_any W)
    go_enter Tryd.func3, Tryd.ntmps3
    go_upto_region 4 with (first
      | (go_at_call 8; refine HFE.out.mono ?_; rintro e w1 ⟨rfl, rfl⟩)
      | (at_builtin; refine wpList_appR w.heap.size _ rfl _ _ rfl (.slice (some ⟨w.heap.size, 0, none⟩) 0 0) 0 n2 [] ys rfl HO0.out HB0.out.size A2 n2 cap2 rfl HN2.out HR0.out (by omega) (by omega) ?_; intro A1 c1 w1 hO1 hB1)
      | fail)
    have HB1 := Lib.hid (HB0.out.trans hB1)
    have hO1r : Row w1 w1.heap.size A1 (sx ys) := Row.of_own hO1
    have hc1 : n2 ≤ c1 := by
      obtain ⟨A9, c9, hv, hc9, _⟩ := own_form hO1
      cases hv
      exact hc9
    have HR1 := Lib.hid (fun W (h : Below w1.heap.size w1 W) => (hO1r.below h).mono h.size)
    have HUP := Lib.hid (fun W (h : Below w1.heap.size w1 W) => HB1.out.trans (h.mono HB1.out.size))
    have hR := Below.refl w1.heap.size w1
    clear hO1 hB1 hO1r HO0 HB0 HR0 HFE
    go_upto_region 5 with (first
      | (go_at_call 10; ((with_reducible refine (K1.out _ (HUP.out _ hR)).mono ?_); rintro e wz ⟨rfl, hb⟩; replace hR := upB hR hb; clear hb))
      | (go_at_call 11; ((with_reducible refine (K2.out _).mono ?_); rintro e wz ⟨rfl, rfl⟩))
      | (go_at_call 12; ((with_reducible refine (K3.out _ (HUP.out _ hR)).mono ?_); rintro e wz ⟨rfl, hb⟩; replace hR := upB hR hb; clear hb))
      | (go_at_call 13; ((with_reducible refine (K4.out _).mono ?_); rintro e wz ⟨rfl, rfl⟩))
      | (go_at_call 14; ((with_reducible refine (K5.out _ (HUP.out _ hR)).mono ?_); rintro e wz ⟨rfl, rfl⟩))
      | (go_at_call 15; ((with_reducible refine (K6.out _ (HUP.out _ hR)).mono ?_); rintro e wz ⟨rfl, rfl⟩))
      | (go_at_call 16; ((with_reducible refine (K7.out _ (HUP.out _ hR)).mono ?_); rintro e wz ⟨rfl, rfl⟩))
      | (go_at_call 17; ((with_reducible refine (K8.out _ (HUP.out _ hR)).mono ?_); rintro e wz ⟨rfl, rfl⟩))
      | fail)
    have HR5 := Lib.hid hR
    clear hR
    go_wp2_with (first
      | (go_at_call 19; ((with_reducible refine (K9.out _ _ _ hc1 (HR1.out _ HR5.out)).mono ?_); rintro e w2 ⟨A3, c3, rfl, hO3, hb3⟩; have h13 := upB HR5.out hb3))
      | (go_at_call 20; ((with_reducible refine (K10.out _ (HUP.out _ h13)).mono ?_); rintro e w3 ⟨A4, c4, rfl, hO4, hb4⟩; have h14 := upB h13 hb4))
      | (go_at_call 18; ((with_reducible refine (T1.out _ _ _ _ _ (((Row.of_own hO3).below hb4).mono hb4.size) (Row.of_own hO4)).mono ?_); rintro e w4 ⟨rfl, hb5⟩; have h15 := upB h14 hb5))
      | (go_at_call 21; ((with_reducible refine (K11.out _ _ _ (HUP.out _ h15) (HR1.out _ h15)).mono ?_); rintro e w5 ⟨A5, c5, rfl, hO5, hb6⟩; have h16 := upB h15 hb6))
      | (go_at_call 22; ((with_reducible refine (K12.out _ (HUP.out _ h16)).mono ?_); rintro e w6 ⟨A6, c6, rfl, hO6, hb7⟩; have h17 := upB h16 hb7))
      | (go_at_call 18; ((with_reducible refine (T2.out _ _ _ _ _ (((Row.of_own hO5).below hb7).mono hb7.size) (Row.of_own hO6)).mono ?_); rintro e w7 ⟨rfl, hb8⟩; have h18 := upB h17 hb8))
      | (go_at_call 18; ((with_reducible refine (T3.out _ _ _ _ _ (HR1.out _ h18) (HR2.out _ (HUP.out _ h18))).mono ?_); rintro e w8 ⟨rfl, hb9⟩; have h19 := upB h18 hb9))
      | (go_at_call 9; ((with_reducible refine (HAW.out _).mono ?_); rintro e w9 ⟨rfl, hb10⟩; have h20 := upB h19 hb10))
      | fail)
    go_ret
    exact ⟨rfl, HUP.out _ h20⟩

/-! From the walk to the given statement. -/
set_option linter.unusedVariables false
theorem own : ownKnob Tryd.prog.godebug = none := by kernel_rfl
theorem laidOut : laidOutB Tryd.prog = true := by kernel_rfl
set_option maxRecDepth 100000 in
theorem lifted (os : Os) (started : os.Started) (H : Type) (enc : TypeId × Value → H) :
    ReturnsInHanded {} Tryd.checked os 3 .any (fun w args => (Rows.pathTellsSpec.pre enc Tryd.prog Tryd.f3 [] false w args ∧ laidMetH Tryd.prog Rows.pathTellsRow.laid w) ∧ sizedMet enc Tryd.prog Tryd.f3 (OpenSpec.ofChange Rows.pathTellsSpec) false w args)
      (Rows.pathTellsSpec.post enc Tryd.prog Tryd.f3 false true false false) := by
  refine returnsIn_and_shaped (C := Tryd.checked) (X := fun w _ => laidMetH Tryd.prog Rows.pathTellsRow.laid w) (fun _ _ _ hh h => h.of_heap hh) own started (by kernel_rfl) Tryd.func3
    (ChangeSpec.witness_shaped (enc := enc) (C := Tryd.checked) (os := os) (X := fun w _ => laidMetH Tryd.prog Rows.pathTellsRow.laid w) false (World.laidAll Tryd.prog os Rows.pathTellsRow.laid) #[.string .empty, .slice none 0 0, .string .empty, .slice none 0 0] 8 (World.laidAll_os _ _ _)
      (World.shaped_of_ZipB (by kernel_rfl) (by kernel_rfl)) (by kernel_rfl) (by kernel_rfl) (by kernel_rfl)
      (by rw [MakeChecks.laidMetH_plain _ _ _ (by kernel_rfl)]; exact laidMet_laidAll _ (by kernel_rfl) (by kernel_rfl))) ?_
  intro W base args ds gs before hval0 hW _ _ hL hsh _
  have hval : ∀ (j : Nat) t v, Tryd.f3.params[j]? = some t → args[j]? = some v → Value.okWide Tryd.prog W .any base t v := hval0
  have hW' := hW
  obtain ⟨p, q, hA0, hV, rfl, _, _⟩ := hW
  have hA : DataW.TrodAll enc Tryd.prog W 0 (fun _ => true) true Tryd.f3.params.toList args.toList ds p := hA0
  rw [Tryd.params3] at hA hval
  obtain ⟨v0, vs0, d0, ds0, p0, q0, hargs, rfl, rfl, h0, r0⟩ := trodAll_cons hA
  obtain ⟨v1, vs1, d1, ds1, p1, q1, rfl, rfl, rfl, h1, r1⟩ := trodAll_cons r0
  obtain ⟨v2, vs2, d2, ds2, p2, q2, rfl, rfl, rfl, h2, r2⟩ := trodAll_cons r1
  obtain ⟨v3, vs3, d3, ds3, p3, q3, rfl, rfl, rfl, h3, r3⟩ := trodAll_cons r2
  obtain ⟨rfl, rfl, rfl⟩ := trodAll_nil r3
  obtain rfl : args = #[v0, v1, v2, v3] := by cases args; simp_all
  obtain ⟨rfl, rfl⟩ := trodVars_none hV
  obtain ⟨a0, rfl, rfl, rfl, w0⟩ := open_string Tryd.underlying9 (hval 0 9 v0 rfl rfl) h0
  obtain ⟨a1, len1, cap1, rfl⟩ := okWide_slice Tryd.underlying22 (hval 1 22 v1 rfl rfl)
  have k1 := h1
  have lt1 : ∀ x ∈ p1, x.block < W.heap.size := by obtain ⟨m, hm⟩ := k1; exact DataW.trod_lt m _ _ _ hm
  obtain ⟨z1, w1⟩ := in_row Tryd.underlying22 Tryd.underlying21 (by kernel_rfl) h1
  obtain ⟨a2, rfl, rfl, rfl, w2⟩ := open_string Tryd.underlying9 (hval 2 9 v2 rfl rfl) h2
  obtain ⟨a3, len3, cap3, rfl⟩ := okWide_slice Tryd.underlying23 (hval 3 23 v3 rfl rfl)
  have k3 := h3
  have lt3 : ∀ x ∈ p3, x.block < W.heap.size := by obtain ⟨m, hm⟩ := k3; exact DataW.trod_lt m _ _ _ hm
  obtain ⟨z3, w3⟩ := in_texts Tryd.underlying23 Tryd.underlying9 (by kernel_rfl) h3
  clear hA0 hval0
  rw [MakeChecks.laidMetH_plain _ _ _ (by kernel_rfl)] at hL
  have hEnv : Env W := env_of hsh (Lib.laidMet.reads hL (.head _)) (Lib.laidMet.reads hL (.tail _ (.head _))) (Lib.laidMet.reads hL (.tail _ (.tail _ (.head _))))
  refine (walk a0 a1 len1 cap1 z1 a2 a3 len3 cap3 z3 W w0 w1 w2 w3 hEnv).mono fun e W' ⟨he, bel⟩ => ?_
  subst he
  exact ⟨_, rfl, _, _, _, [], _, [], hW', trodAll_mk1 (shut_bool Tryd.underlying4 _), (trodAll_cons_mk (shut_string Tryd.underlying9 w0) (trodAll_cons_mk (Below.trod laidOut (by kernel_rfl) (of_decide_eq_true (by kernel_rfl)) k1 bel lt1) (trodAll_cons_mk (shut_string Tryd.underlying9 w2) (trodAll_cons_mk (Below.trod laidOut (by kernel_rfl) (of_decide_eq_true (by kernel_rfl)) k3 bel lt3) trodAll_mk0)))), rfl, bel.frame _, fun h => by cases h⟩

theorem row_holds : Rows.PathTellsSaid :=
  OpenClaim.holds_of_wide 3 Tryd.f3 rfl rfl rfl rfl rfl rfl rfl ⟨rfl, rfl, rfl, rfl, rfl⟩ rfl rfl rfl rfl rfl (by kernel_rfl) Tryd.func3 (by kernel_rfl)
    (of_decide_eq_true (by kernel_rfl)) (by unfold Func.isWrapper; first | (rw [if_pos (by decide +kernel)]; kernel_rfl) | (rw [if_neg (by decide +kernel)]; exact ⟨rfl, rfl⟩))
    (fun os started H enc _ => lifted os started H enc)

theorem proved : Rows.PathTellsCardSaid :=
  Claim7.holds_tied_plain_at .later [] [.data, .pinned, .pinned] true (true, "096174d399074f8f904a42b2286baa8b454bcc68437828faff9a89272ecf41e2") false
    row_holds (fun _ h => by cases h) (by kernel_rfl) (fun _ h => by cases h) pathTells_row_tie rfl ⟨rfl, rfl⟩ (by kernel_rfl) rfl
    (fun f fn hf hfn => by
      obtain rfl : f = 3 := Option.some.inj ((show Tryd.prog.funcNamed "fascia/fascialaw16.PathTells" = some 3 by kernel_rfl).symm.trans hf) |>.symm
      obtain rfl : fn = Tryd.f3 := (Option.some.inj (Tryd.func3.symm.trans hfn)).symm
      exact ⟨by kernel_rfl, fun j t ht => by
        rw [Tryd.params3] at ht
        have hm : t ∈ [9, 22, 9, 23] := by simpa using Array.mem_of_getElem? ht
        have hall : ([9, 22, 9, 23].all fun u => !Tryd.prog.wantsStandIn u) = true := by kernel_rfl
        exact (show Tryd.prog.wantsStandIn t = false by simpa using List.all_eq_true.1 hall t hm)⟩)
    (by kernel_rfl)
end Go.Proofs.YtjkfppgekepbeaaDoor.pathTells
