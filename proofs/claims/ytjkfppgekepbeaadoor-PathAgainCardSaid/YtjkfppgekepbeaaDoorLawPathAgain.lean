/-
  For http, file and a scheme that is not special, and any code points (up to 300): what a walk from no path on tells has a segment at least, and none that is dots, or has a separator; put together with /, and walked again, it is the same (fascialaw16.PathAgain answers true). No condition.
-/
import Derived.Test.YtjkfppgekepbeaaDoorPthM
import Derived.Test.YtjkfppgekepbeaaDoorFrame
import Derived.Test.YtjkfppgekepbeaaDoorFrame
import Derived.Test.YtjkfppgekepbeaaDoorTie
import Derived.Test.YtjkfppgekepbeaaDoorCards
import Derived.Test.YtjkfppgekepbeaaDoorPthZ
import Derived.ProofKit
import Derived.Lay
import Derived.Stop.Joined
import Derived.SevenTiedAt
namespace Go.Proofs.YtjkfppgekepbeaaDoor.pathAgain
set_option maxRecDepth 100000
open Go.ChangeShapes Go.WideShapes Go.ChangeAt Go.RowKit Utf Ut Hst Pth
open Go.ChangeMaps (open_string shut_string)

/-- the three names -/
abbrev nmH : ByteArray := ⟨#[104, 116, 116, 112]⟩
abbrev nmF : ByteArray := ⟨#[102, 105, 108, 101]⟩
abbrev nmX : ByteArray := ⟨#[120]⟩
theorem no_slash {sp : Bool} {s : ByteArray} (h : Sgm sp s) : (47 : UInt8) ∉ dl s := fun hm => by
  have := h.slash 47 (List.mem_map.2 ⟨47, hm, rfl⟩)
  unfold sep at this
  simp at this
theorem no_back {s : ByteArray} (h : Sgm true s) : (92 : UInt8) ∉ dl s := fun hm => by
  have := h.slash 92 (List.mem_map.2 ⟨92, hm, rfl⟩)
  unfold sep at this
  simp at this
theorem mod3 (a : Int) (h0 : 0 ≤ a) : ∃ r : Int, a % 3 = r ∧ a.tmod 3 = r ∧ (r = 0 ∨ r = 1 ∨ r = 2) := ⟨a % 3, rfl, Int.tmod_eq_emod_of_nonneg h0, by omega⟩
set_option maxRecDepth 100000 in
set_option maxHeartbeats 4000000 in
theorem walk (a : Int) (A : Option Addr) (n cap : Nat) (l : List Int) (w : World) (h0 : 0 ≤ a) (_h255 : a ≤ 255) (hin : InRow .i32 w A n cap l) : Calls Tryd.prog 4 #[.int .u8 a, .slice A n cap] w fun e w' => e = .returned (.bool true) ∧ Below w.heap.size w w' := by
  obtain ⟨hlen, hcap, _, hrow, _⟩ := hin
  have HAW := Lib.hid (fun W => awake_any W)
  by_cases h300 : 300 < n
  · have hz : (300 : Int) < (n : Int) := by omega
    have HB := Lib.hid (Below.refl w.heap.size w)
    clear hrow
    go_enter Tryd.func4, Tryd.ntmps4
    go_wp2_with (first | (go_at_call 9; refine (HAW.out _).mono ?_; rintro e w1 ⟨rfl, hB1⟩) | fail)
    go_ret
    exact ⟨rfl, hB1⟩
  · have hz : ¬ (300 : Int) < (n : Int) := by omega
    have HW := Lib.hid (fun (S : ByteArray) (hS : S.size ≤ 100) W (h : Below w.heap.size w W) => Walk_any S (by unfold maxLen; omega) [] none 0 0 l A n cap W rfl (by omega) hlen hcap (by omega) .empty ((hrow.below h).mono h.size))
    have HG := Lib.hid (fun sp fl => wlk_good sp fl l)
    have HT := Lib.hid (fun sp fl => tot_wlk sp fl [] l)
    have HNE := Lib.hid (fun sp fl => wlk_ne sp fl [] l)
    have HAG := Lib.hid (fun sp fl => wlk_again sp fl l)
    have HN := Lib.hid hlen
    obtain ⟨r, hr1, hr2, hr⟩ := mod3 a h0
    clear hrow hlen hcap
    have hB0 := upA w (.cells #[.string nmH, .string nmF, .string nmX] 9)
    have HL0 := Lib.hid (show ∃ w0, w.alloc (.cells #[.string nmH, .string nmF, .string nmX] 9) = w0 from ⟨_, rfl⟩)
    have e0 : (nmH.toList == ([120] : List UInt8)) = !(spc nmH) := by rw [ByteArray.toList_eq]; decide
    have e1 : (nmF.toList == ([120] : List UInt8)) = !(spc nmF) := by rw [ByteArray.toList_eq]; decide
    have e2 : (nmX.toList == ([120] : List UInt8)) = !(spc nmX) := by rw [ByteArray.toList_eq]; decide
    have HS0 : Hid (∃ S : ByteArray, (⟨#[104, 116, 116, 112]⟩ : ByteArray) = S ∧ S.size ≤ 100 ∧ (S.toList == ([120] : List UInt8)) = !(spc S)) := Lib.hid ⟨_, rfl, by decide, e0⟩
    have HS1 : Hid (∃ S : ByteArray, (⟨#[102, 105, 108, 101]⟩ : ByteArray) = S ∧ S.size ≤ 100 ∧ (S.toList == ([120] : List UInt8)) = !(spc S)) := Lib.hid ⟨_, rfl, by decide, e1⟩
    have HS2 : Hid (∃ S : ByteArray, (⟨#[120]⟩ : ByteArray) = S ∧ S.size ≤ 100 ∧ (S.toList == ([120] : List UInt8)) = !(spc S)) := Lib.hid ⟨_, rfl, by decide, e2⟩
    clear e0 e1 e2
    rcases hr with rfl | rfl | rfl
    all_goals
      go_enter Tryd.func4, Tryd.ntmps4
      go_upto_region 4 with fail
      obtain ⟨w0, hw0⟩ := HL0.out
      rw [hw0] at hB0 ⊢
      first
        | (obtain ⟨S, hS, hss, hq⟩ := HS0.out; rw [hS])
        | (obtain ⟨S, hS, hss, hq⟩ := HS1.out; rw [hS])
        | (obtain ⟨S, hS, hss, hq⟩ := HS2.out; rw [hS])
      clear HS0 HS1 HS2 HL0 hw0 hS hr1 hr2
      have HW0 := Lib.hid (HW.out S hss w0 hB0)
      have HG0 := Lib.hid (HG.out (spc S) (fil S))
      have HT0 := HT.out (spc S) (fil S)
      have HN0 := HNE.out (spc S) (fil S)
      have HA0 := Lib.hid (HAG.out (spc S) (fil S))
      have HWK := Lib.hid (fun (T : List Int) A k c2 W (hk : T.length = k) (hc : k ≤ c2) (hk1 : k ≤ 20000) (hr : Row W W.heap.size A (cl .i32 T)) => Walk_any S (by unfold maxLen; omega) [] none 0 0 T A k c2 W rfl (by omega) hk hc hk1 .empty hr)
      obtain ⟨P, hP⟩ : ∃ P, wlk (spc S) (fil S) [] l = P := ⟨_, rfl⟩
      rw [hP] at HW0 HG0 HT0 HN0 HA0
      obtain ⟨sp, hsp⟩ : ∃ sp, spc S = sp := ⟨_, rfl⟩
      obtain ⟨fl, hfl⟩ : ∃ fl, fil S = fl := ⟨_, rfl⟩
      rw [hsp, hfl] at HG0 HA0 HWK
      rw [hsp] at hq
      have HQ := Lib.hid hq
      clear hq
      obtain ⟨m, hm⟩ : ∃ m, P.length = m := ⟨_, rfl⟩
      have hm0 : 0 < m := by rw [← hm]; exact List.length_pos_iff.2 HN0
      have hmt : m ≤ tot P := by rw [← hm]; exact tot_ge P
      have htP : tot P ≤ 3612 := by
        have := HN.out
        simp only [tot] at HT0
        omega
      unfold MadeTexts at HW0
      rw [hm] at HW0
      have HM := Lib.hid hm
      have HNE0 := Lib.hid HN0
      have HTP := Lib.hid htP
      have hmz : ((m : Int) == 0) = false := by rw [beq_eq_false_iff_ne]; omega
      clear hP hsp hfl HT0 HN0 HW HG HT HNE HAG hm
      go_wp2_with (first | (go_at_call 21; refine HW0.out.mono ?_; rintro e w1 ⟨A1, c1, rfl, hO1, hB1⟩) | fail)
      have hB01 := upB hB0 hB1
      have HO1 := Lib.hid hO1
      have hmc : m ≤ c1 := by
        obtain ⟨A2, c2, hv, hc, _⟩ := own_form hO1
        cases hv
        exact hc
      have HB01 := Lib.hid hB01
      clear hO1 hB1 hB01 hB0 hmz
      go_loopg [26] m (fun g s26 wr => ∃ k : Nat, s26 = .int .i64 (k : Int) ∧ m - k = g ∧ k ≤ m ∧ Hid (Below w1.heap.size w1 wr))
      case atStart => exact ⟨0, rfl, rfl, Nat.zero_le _, Lib.hid (Below.refl _ _)⟩
      case round =>
        obtain ⟨k, rfl, rfl, hk, HB⟩ := hrel
        by_cases hlt : k < m
        · have hltz : (k : Int) < (m : Int) := by omega
          have hkP : k < P.length := by rw [HM.out]; exact hlt
          obtain ⟨b, o, rfl, hb, hcc⟩ := ((Row.of_own HO1.out).below HB.out).at_ (by rw [List.length_map, HM.out]; exact hm0)
          have c0 : wr.cell? ⟨b, o + k, none⟩ = some (.string P[k]) := by rw [hcc k (by rw [List.length_map]; exact hkP), sx_get _ _ hkP]
          have hx := HG0.out.1 P[k] (List.getElem_mem hkP)
          have hxs := tot_mem (List.getElem_mem hkP)
          obtain ⟨x, hxx⟩ : ∃ x, P[k] = x := ⟨_, rfl⟩
          rw [hxx] at c0 hx hxs
          have hx1 : x.size ≤ 1000000 := by have := HTP.out; omega
          have H1 := Lib.hid (fun W => Single_asc hx1 hx.asc W)
          rw [hx.one] at H1
          have H2 := Lib.hid (fun W => Double_asc hx1 hx.asc W)
          rw [hx.two] at H2
          have H3 := Lib.hid (fun W => Contains_no x 47 (no_slash hx) W)
          have HX := Lib.hid hx
          clear hcc hxx hx hxs
          cases sp with
          | true =>
            have hq : (S.toList == ([120] : List UInt8)) = false := HQ.out
            have H4 := Lib.hid (fun W => Contains_no x 92 (no_back HX.out) W)
            go_wp2_with (first
              | (go_at_call 10; refine (H1.out _).mono ?_; rintro e w2 ⟨rfl, hB2⟩)
              | (go_at_call 12; refine (H2.out _).mono ?_; rintro e w3 ⟨rfl, hB3⟩)
              | (go_at_call 23; ((with_reducible refine (H3.out _).mono ?_); rintro e w4 ⟨rfl, rfl⟩))
              | (go_at_call 23; ((with_reducible refine (H4.out _).mono ?_); rintro e w5 ⟨rfl, rfl⟩))
              | fail)
            go_roundg (m - (k + 1))
            case measure => omega
            case rel => exact ⟨k + 1, by go_num, rfl, by omega, Lib.hid (upB (upB HB.out hB2) hB3)⟩
          | false =>
            have hq : (S.toList == ([120] : List UInt8)) = true := HQ.out
            go_wp2_with (first
              | (go_at_call 10; refine (H1.out _).mono ?_; rintro e w2 ⟨rfl, hB2⟩)
              | (go_at_call 12; refine (H2.out _).mono ?_; rintro e w3 ⟨rfl, hB3⟩)
              | (go_at_call 23; ((with_reducible refine (H3.out _).mono ?_); rintro e w4 ⟨rfl, rfl⟩))
              | fail)
            go_roundg (m - (k + 1))
            case measure => omega
            case rel => exact ⟨k + 1, by go_num, rfl, by omega, Lib.hid (upB (upB HB.out hB2) hB3)⟩
        · obtain rfl : k = m := by omega
          have hltz : ¬ ((k : Nat) : Int) < (k : Int) := by omega
          have hBr := upB HB01.out HB.out
          have hrr := (Row.of_own HO1.out).below HB.out
          have HJ := Lib.hid (joined_any P HNE0.out (fun s hs => (HG0.out.1 s hs).asc) (by have := HTP.out; omega) A1 k c1 wr HM.out hmc (hrr.mono HB.out.size))
          unfold JndR at HJ
          have htl := txt_len P
          have hT2 : (txt P).length ≤ 20000 := by have := HTP.out; omega
          have HA1 := Lib.hid HA0.out
          have HW2 := Lib.hid (fun A c2 W (hc : (txt P).length ≤ c2) (hr : Row W W.heap.size A (cl .i32 (txt P))) => HWK.out (txt P) A (txt P).length c2 W rfl hc hT2 hr)
          rw [HA1.out] at HW2
          obtain ⟨q, hq2⟩ : ∃ q, (txt P).length = q := ⟨_, rfl⟩
          rw [hq2] at HJ HW2
          unfold MadeTexts at HW2
          rw [HM.out] at HW2
          have HTX := Lib.hid (fun B1 c1' d1 W (h1 : Row W W.heap.size B1 (sx P)) (h2 : Row W W.heap.size A1 (sx P)) => Texts_any P P B1 A1 k k c1' d1 W HM.out HM.out (by omega) (by omega) h1 h2)
          rw [decide_eq_true rfl] at HTX
          have HRR := Lib.hid hrr
          clear hq2 htl hT2 HA1 hrr
          go_wp2_with (first
            | (go_at_call 24; refine HJ.out.mono ?_; rintro e w2 ⟨A2, c2, rfl, hc2, hr2, hB2⟩; have hB02 := upB hBr hB2)
            | (go_at_call 21; refine (HW2.out _ _ _ hc2 hr2).mono ?_; rintro e w3 ⟨A3, c3, rfl, hO3, hB3⟩; have hB03 := upB hB02 hB3; have hB23 := hB2.trans (hB3.mono hB2.size))
            | (go_at_call 18; refine (HTX.out _ _ _ _ (Row.of_own hO3) ((HRR.out.mono HB.out.size |>.below hB23).mono hB23.size)).mono ?_; rintro e w4 ⟨rfl, hB4⟩; have hB04 := upB hB03 hB4)
            | (go_at_call 9; refine (HAW.out _).mono ?_; rintro e w5 ⟨rfl, hB5⟩)
            | fail)
          go_ret
          exact ⟨rfl, upB hB04 hB5⟩

/-! From the walk to the given statement. -/
set_option linter.unusedVariables false
theorem own : ownKnob Tryd.prog.godebug = none := by kernel_rfl
theorem laidOut : laidOutB Tryd.prog = true := by kernel_rfl
set_option maxRecDepth 100000 in
theorem lifted (os : Os) (started : os.Started) (H : Type) (enc : TypeId × Value → H) :
    ReturnsInHanded {} Tryd.checked os 4 .any (fun w args => (Rows.pathAgainSpec.pre enc Tryd.prog Tryd.f4 [] false w args ∧ laidMetH Tryd.prog Rows.pathAgainRow.laid w) ∧ sizedMet enc Tryd.prog Tryd.f4 (OpenSpec.ofChange Rows.pathAgainSpec) false w args)
      (Rows.pathAgainSpec.post enc Tryd.prog Tryd.f4 false true false false) := by
  refine returnsIn_and_shaped (C := Tryd.checked) (X := fun w _ => laidMetH Tryd.prog Rows.pathAgainRow.laid w) (fun _ _ _ hh h => h.of_heap hh) own started (by kernel_rfl) Tryd.func4
    (ChangeSpec.witness_shaped (enc := enc) (C := Tryd.checked) (os := os) (X := fun w _ => laidMetH Tryd.prog Rows.pathAgainRow.laid w) false (World.laidAll Tryd.prog os Rows.pathAgainRow.laid) #[.int .u8 0, .slice none 0 0] 8 (World.laidAll_os _ _ _)
      (World.shaped_of_ZipB (by kernel_rfl) (by kernel_rfl)) (by kernel_rfl) (by kernel_rfl) (by kernel_rfl)
      (by rw [MakeChecks.laidMetH_plain _ _ _ (by kernel_rfl)]; exact laidMet_laidAll _ (by kernel_rfl) (by kernel_rfl))) ?_
  intro W base args ds gs before hval0 hW _ _ hL hsh _
  have hval : ∀ (j : Nat) t v, Tryd.f4.params[j]? = some t → args[j]? = some v → Value.okWide Tryd.prog W .any base t v := hval0
  have hW' := hW
  obtain ⟨p, q, hA0, hV, rfl, _, _⟩ := hW
  have hA : DataW.TrodAll enc Tryd.prog W 0 (fun _ => true) true Tryd.f4.params.toList args.toList ds p := hA0
  rw [Tryd.params4] at hA hval
  obtain ⟨v0, vs0, d0, ds0, p0, q0, hargs, rfl, rfl, h0, r0⟩ := trodAll_cons hA
  obtain ⟨v1, vs1, d1, ds1, p1, q1, rfl, rfl, rfl, h1, r1⟩ := trodAll_cons r0
  obtain ⟨rfl, rfl, rfl⟩ := trodAll_nil r1
  obtain rfl : args = #[v0, v1] := by cases args; simp_all
  obtain ⟨rfl, rfl⟩ := trodVars_none hV
  obtain ⟨a0, rfl, rfl, rfl, w0⟩ := open_int Tryd.underlying5 (hval 0 5 v0 rfl rfl) h0
  have b0 : 0 ≤ a0 ∧ a0 ≤ 255 := by simpa [Lit.wf, IntKind.min, IntKind.max, IntKind.signed, IntKind.bits] using w0
  obtain ⟨a1, len1, cap1, rfl⟩ := okWide_slice Tryd.underlying22 (hval 1 22 v1 rfl rfl)
  have k1 := h1
  have lt1 : ∀ x ∈ p1, x.block < W.heap.size := by obtain ⟨m, hm⟩ := k1; exact DataW.trod_lt m _ _ _ hm
  obtain ⟨z1, w1⟩ := in_row Tryd.underlying22 Tryd.underlying21 (by kernel_rfl) h1
  clear hA0 hval0
  refine (walk a0 a1 len1 cap1 z1 W b0.1 b0.2 w1).mono fun e W' ⟨he, bel⟩ => ?_
  subst he
  exact ⟨_, rfl, _, _, _, [], _, [], hW', trodAll_mk1 (shut_bool Tryd.underlying4 _), (trodAll_cons_mk (shut_int Tryd.underlying5 w0) (trodAll_cons_mk (Below.trod laidOut (by kernel_rfl) (of_decide_eq_true (by kernel_rfl)) k1 bel lt1) trodAll_mk0)), rfl, bel.frame _, fun h => by cases h⟩

theorem row_holds : Rows.PathAgainSaid :=
  OpenClaim.holds_of_wide 4 Tryd.f4 rfl rfl rfl rfl rfl rfl rfl ⟨rfl, rfl, rfl, rfl, rfl⟩ rfl rfl rfl rfl rfl (by kernel_rfl) Tryd.func4 (by kernel_rfl)
    (of_decide_eq_true (by kernel_rfl)) (by unfold Func.isWrapper; first | (rw [if_pos (by decide +kernel)]; kernel_rfl) | (rw [if_neg (by decide +kernel)]; exact ⟨rfl, rfl⟩))
    (fun os started H enc _ => lifted os started H enc)

theorem proved : Rows.PathAgainCardSaid :=
  Claim7.holds_tied_plain_at .later [] [.data, .pinned, .pinned] true (true, "096174d399074f8f904a42b2286baa8b454bcc68437828faff9a89272ecf41e2") false
    row_holds (fun _ h => by cases h) (by kernel_rfl) (fun _ h => by cases h) pathAgain_row_tie rfl ⟨rfl, rfl⟩ (by kernel_rfl) rfl
    (fun f fn hf hfn => by
      obtain rfl : f = 4 := Option.some.inj ((show Tryd.prog.funcNamed "fascia/fascialaw16.PathAgain" = some 4 by kernel_rfl).symm.trans hf) |>.symm
      obtain rfl : fn = Tryd.f4 := (Option.some.inj (Tryd.func4.symm.trans hfn)).symm
      exact ⟨by kernel_rfl, fun j t ht => by
        rw [Tryd.params4] at ht
        have hm : t ∈ [5, 22] := by simpa using Array.mem_of_getElem? ht
        have hall : ([5, 22].all fun u => !Tryd.prog.wantsStandIn u) = true := by kernel_rfl
        exact (show Tryd.prog.wantsStandIn t = false by simpa using List.all_eq_true.1 hall t hm)⟩)
    (by kernel_rfl)
end Go.Proofs.YtjkfppgekepbeaaDoor.pathAgain
