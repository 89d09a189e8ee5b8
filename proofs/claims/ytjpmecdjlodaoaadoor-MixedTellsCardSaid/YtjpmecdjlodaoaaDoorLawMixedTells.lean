/-
  For any label (up to 200): its scripts, its level, whether its digits are of one system, and what it fails, are exactly as the document defines (fascialaw10.MixedTells answers true). No condition.
-/
import Derived.Test.YtjpmecdjlodaoaaDoorMixRB
import Derived.Test.YtjpmecdjlodaoaaDoorFrame
import Derived.Test.YtjpmecdjlodaoaaDoorTie
import Derived.Test.YtjpmecdjlodaoaaDoorCards
import Derived.ProofKit
import Derived.Lay
import Derived.Stop.Joined
import Derived.SevenTiedAt
namespace Go.Proofs.YtjpmecdjlodaoaaDoor.mixedTells
open Go.ChangeShapes Go.WideShapes Go.ChangeAt Go.RowKit Mix Rul Ucd

theorem in_c32 {zs : List Int} (h : ∀ n ∈ zs, (Lit.int .i32 n).wf = true) : C32 zs := fun x hx => by
  have := h x hx
  simp [Lit.wf, IntKind.min, IntKind.max, IntKind.bits, IntKind.signed] at this
  omega
theorem scr_c8 (l : List Int) : C8 (scripts l) := fun x hx => by
  obtain ⟨s, hs, rfl⟩ := List.mem_map.1 hx
  have := List.mem_range.1 (List.mem_filter.1 hs).1
  omega
set_option maxRecDepth 100000 in
set_option maxHeartbeats 2000000 in
theorem walk (A : Option Addr) (n cap : Nat) (l : List Int) (w : World) (hin : InRow .i32 w A n cap l) : Calls Tryd.prog 3 #[.slice A n cap] w fun e w' => e = .returned (.bool true) ∧ Below w.heap.size w w' := by
  obtain ⟨hlen, _, _, hrow, hwf⟩ := hin
  have HAW := Lib.hid awake10_any
  by_cases h200 : 200 < n
  · have h200z : (200 : Int) < (n : Int) := by omega
    go_enter Tryd.func3, Tryd.ntmps3
    go_wp2_with fail
    go_ret
    exact ⟨rfl, Below.refl _ _⟩
  · have h200z : ¬ (200 : Int) < (n : Int) := by omega
    have hc := in_c32 hwf
    have hn1 : n ≤ 1000000 := by omega
    have HS := Lib.hid (Scripts_any l A n cap w hlen hn1 hrow)
    have HRS := Lib.hid (fun W (h : Below w.heap.size w W) => RefScripts_any l A n cap W hlen hn1 hc (upR hrow h))
    have HL := Lib.hid (fun W (h : Below w.heap.size w W) => Level_any l A n cap W hlen hn1 (upR hrow h))
    have HRL := Lib.hid (fun W (h : Below w.heap.size w W) => RefLevel_any l A n cap W hlen hn1 hc (upR hrow h))
    have HD := Lib.hid (fun W (h : Below w.heap.size w W) => Digits_any l A n cap W hlen hn1 (upR hrow h))
    have HRD := Lib.hid (fun W (h : Below w.heap.size w W) => RefDigits_any l A n cap W hlen hn1 hc (upR hrow h))
    have HK := Lib.hid (fun W (h : Below w.heap.size w W) => Check_any l A n cap W hlen hn1 (upR hrow h))
    have HRK := Lib.hid (fun W (h : Below w.heap.size w W) => RefCheck_any l A n cap W hlen hn1 hc (upR hrow h))
    have hx8 := scr_c8 l
    generalize scripts l = xs at HS HRS hx8
    have HSM : Hid (∀ A1 c1 A2 c2 W, Row W W.heap.size A1 (cl .u8 xs) → Row W W.heap.size A2 (cl .u8 xs) → Calls Tryd.prog 7 #[.slice A1 xs.length c1, .slice A2 xs.length c2] W (IsB true W)) := Lib.hid (fun A1 c1 A2 c2 W h1 h2 => by
      have := same_any xs xs A1 xs.length c1 A2 xs.length c2 W rfl rfl h1 h2 hx8 hx8
      rwa [decide_eq_true rfl] at this)
    generalize Mix.chk l = y at HK HRK
    generalize lev l = z at HL HRL
    generalize dgs l = q at HD HRD
    have hyy : (y == y) = true := by simp
    have hzz : (z == z) = true := by simp
    have hqq : (q == q) = true := by simp
    clear hlen hwf hrow hc hx8 hn1
    go_enter Tryd.func3, Tryd.ntmps3
    go_wp2_with (first
      | (go_at_call 8; refine HS.out.mono ?_; rintro e w1 ⟨A1, c1, rfl, hr1, hB1⟩)
      | (go_at_call 9; refine (HRS.out _ hB1).mono ?_; rintro e w2 ⟨A2, c2, rfl, hr2, hB2⟩; have hC2 := upB hB1 hB2)
      | (go_at_call 7; refine (HSM.out _ _ _ _ _ (upR hr1 hB2) hr2).mono ?_; rintro e w3 ⟨rfl, hB3⟩; have hC3 := upB hC2 hB3)
      | (go_at_call 10; refine (HL.out _ hC3).mono ?_; rintro e w4 ⟨rfl, hB4⟩; have hC4 := upB hC3 hB4)
      | (go_at_call 11; refine (HRL.out _ hC4).mono ?_; rintro e w5 ⟨rfl, hB5⟩; have hC5 := upB hC4 hB5)
      | (go_at_call 12; refine (HD.out _ hC5).mono ?_; rintro e w6 ⟨rfl, hB6⟩; have hC6 := upB hC5 hB6)
      | (go_at_call 13; refine (HRD.out _ hC6).mono ?_; rintro e w7 ⟨rfl, hB7⟩; have hC7 := upB hC6 hB7)
      | (go_at_call 14; refine (HK.out _ hC7).mono ?_; rintro e w8 ⟨rfl, hB8⟩; have hC8 := upB hC7 hB8)
      | (go_at_call 15; refine (HRK.out _ hC8).mono ?_; rintro e w9 ⟨rfl, hB9⟩; have hC9 := upB hC8 hB9)
      | (go_at_call 16; refine (HAW.out _).mono ?_; rintro e w90 ⟨rfl, hB90⟩)
      | fail)
    go_ret
    exact ⟨rfl, upB hC9 hB90⟩

/-! From the walk to the given statement. -/
set_option linter.unusedVariables false
theorem own : ownKnob Tryd.prog.godebug = none := by kernel_rfl
theorem laidOut : laidOutB Tryd.prog = true := by kernel_rfl
set_option maxRecDepth 100000 in
theorem lifted (os : Os) (started : os.Started) (H : Type) (enc : TypeId × Value → H) :
    ReturnsInHanded {} Tryd.checked os 3 .any (fun w args => (Rows.mixedTellsSpec.pre enc Tryd.prog Tryd.f3 [] false w args ∧ laidMetH Tryd.prog Rows.mixedTellsRow.laid w) ∧ sizedMet enc Tryd.prog Tryd.f3 (OpenSpec.ofChange Rows.mixedTellsSpec) false w args)
      (Rows.mixedTellsSpec.post enc Tryd.prog Tryd.f3 false true false false) := by
  refine returnsInHanded_of_change_and (C := Tryd.checked) (X := fun w _ => laidMetH Tryd.prog Rows.mixedTellsRow.laid w) (fun _ _ _ hh h => h.of_heap hh) own started (by kernel_rfl) Tryd.func3
    (ChangeSpec.witness_shaped (enc := enc) (C := Tryd.checked) (os := os) (X := fun w _ => laidMetH Tryd.prog Rows.mixedTellsRow.laid w) false (World.laidAll Tryd.prog os Rows.mixedTellsRow.laid) #[.slice none 0 0] 8 (World.laidAll_os _ _ _)
      (World.shaped_of_ZipB (by kernel_rfl) (by kernel_rfl)) (by kernel_rfl) (by kernel_rfl) (by kernel_rfl)
      (by rw [MakeChecks.laidMetH_plain _ _ _ (by kernel_rfl)]; exact laidMet_laidAll _ (by kernel_rfl) (by kernel_rfl))) ?_
  intro W base args ds gs before hval0 hW _ _ hL _
  have hval : ∀ (j : Nat) t v, Tryd.f3.params[j]? = some t → args[j]? = some v → Value.okWide Tryd.prog W .any base t v := hval0
  have hW' := hW
  obtain ⟨p, q, hA0, hV, rfl, _, _⟩ := hW
  have hA : DataW.TrodAll enc Tryd.prog W 0 (fun _ => true) true Tryd.f3.params.toList args.toList ds p := hA0
  rw [Tryd.params3] at hA hval
  obtain ⟨v0, vs0, d0, ds0, p0, q0, hargs, rfl, rfl, h0, r0⟩ := trodAll_cons hA
  obtain ⟨rfl, rfl, rfl⟩ := trodAll_nil r0
  obtain rfl : args = #[v0] := by cases args; simp_all
  obtain ⟨rfl, rfl⟩ := trodVars_none hV
  obtain ⟨a0, len0, cap0, rfl⟩ := okWide_slice Tryd.underlying22 (hval 0 22 v0 rfl rfl)
  have k0 := h0
  have lt0 : ∀ x ∈ p0, x.block < W.heap.size := by obtain ⟨m, hm⟩ := k0; exact DataW.trod_lt m _ _ _ hm
  obtain ⟨z0, w0⟩ := in_row Tryd.underlying22 Tryd.underlying21 (by kernel_rfl) h0
  clear hA0 hval0
  refine (walk a0 len0 cap0 z0 W w0).mono fun e W' ⟨he, bel⟩ => ?_
  subst he
  exact ⟨_, rfl, _, _, _, [], _, [], hW', trodAll_mk1 (shut_bool Tryd.underlying4 _), (trodAll_cons_mk (Below.trod laidOut (by kernel_rfl) (of_decide_eq_true (by kernel_rfl)) k0 bel lt0) trodAll_mk0), rfl, bel.frame _, fun h => by cases h⟩

theorem row_holds : Rows.MixedTellsSaid :=
  OpenClaim.holds_of_wide 3 Tryd.f3 rfl rfl rfl rfl rfl rfl rfl ⟨rfl, rfl, rfl, rfl, rfl⟩ rfl rfl rfl rfl rfl (by kernel_rfl) Tryd.func3 (by kernel_rfl)
    (of_decide_eq_true (by kernel_rfl)) (by unfold Func.isWrapper; first | (rw [if_pos (by decide +kernel)]; kernel_rfl) | (rw [if_neg (by decide +kernel)]; exact ⟨rfl, rfl⟩))
    (fun os started H enc _ => lifted os started H enc)

theorem proved : Rows.MixedTellsCardSaid :=
  Claim7.holds_tied_plain_at .later [] [.data, .data, .data, .data, .sentinel, .sentinel, .pinned] true (true, "894162bb662dbb9bbc7214303acd8c2af297c2ae42e7ec5e5cea64e1b3bfb4cd") true
    row_holds (fun _ h => by cases h) (by kernel_rfl) (fun _ h => by cases h) mixedTells_row_tie rfl ⟨rfl, rfl⟩ (by kernel_rfl) rfl
    (fun f fn hf hfn => by
      obtain rfl : f = 3 := Option.some.inj ((show Tryd.prog.funcNamed "fascia/fascialaw10.MixedTells" = some 3 by kernel_rfl).symm.trans hf) |>.symm
      obtain rfl : fn = Tryd.f3 := (Option.some.inj (Tryd.func3.symm.trans hfn)).symm
      exact ⟨by kernel_rfl, fun j t ht => by
        rw [Tryd.params3] at ht
        have hm : t ∈ [22] := by simpa using Array.mem_of_getElem? ht
        have hall : ([22].all fun u => !Tryd.prog.wantsStandIn u) = true := by kernel_rfl
        exact (show Tryd.prog.wantsStandIn t = false by simpa using List.all_eq_true.1 hall t hm)⟩)
    (by kernel_rfl)
end Go.Proofs.YtjpmecdjlodaoaaDoor.mixedTells
