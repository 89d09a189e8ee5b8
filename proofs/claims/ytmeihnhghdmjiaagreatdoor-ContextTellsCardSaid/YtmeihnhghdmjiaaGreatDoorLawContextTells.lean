/-
  For any label (up to 200), each place, and any other one: which clause the code point at a place fails, and a label, is exactly as the document defines (fascialaw08.ContextTells answers true). No condition.
-/
import Derived.Test.YtmeihnhghdmjiaaGreatDoorCtxRC
import Derived.Test.YtmeihnhghdmjiaaGreatDoorFrame
import Derived.Test.YtmeihnhghdmjiaaGreatDoorTie
import Derived.Test.YtmeihnhghdmjiaaGreatDoorCards
import Derived.ProofKit
import Derived.Lay
import Derived.Stop.Joined
import Derived.SevenTiedAt
namespace Go.Proofs.YtmeihnhghdmjiaaGreatDoor.contextTells
open Go.ChangeShapes Go.WideShapes Go.ChangeAt Go.RowKit Ctx Ucd

theorem in_c32 {zs : List Int} (h : ∀ n ∈ zs, (Lit.int .i32 n).wf = true) : C32 zs := fun x hx => by
  have := h x hx
  simp [Lit.wf, IntKind.min, IntKind.max, IntKind.bits, IntKind.signed] at this
  omega
set_option maxRecDepth 100000 in
set_option maxHeartbeats 2000000 in
theorem walk (A : Option Addr) (n cap : Nat) (l : List Int) (z : Int) (w : World) (hin : InRow .i32 w A n cap l) (_hz0 : -9223372036854775808 ≤ z) (_hz1 : z ≤ 9223372036854775807) : Calls Tryz.prog 3 #[.slice A n cap, .int .i64 z] w fun e w' => e = .returned (.bool true) ∧ Below w.heap.size w w' := by
  obtain ⟨hlen, _, _, hrow, hwf⟩ := hin
  have HAW := Lib.hid awake8_any
  by_cases h200 : 200 < n
  · have h200z : (200 : Int) < (n : Int) := by omega
    go_enter Tryz.func3, Tryz.ntmps3
    go_wp2_with (first | (go_at_call 4; refine (HAW.out _).mono ?_; rintro e w90 ⟨rfl, hB90⟩) | fail)
    go_ret
    exact ⟨rfl, hB90⟩
  · have h200z : ¬ (200 : Int) < (n : Int) := by omega
    have HN := Lib.hid hlen
    have HC := Lib.hid (in_c32 hwf)
    have hn1 : n ≤ 1000000 := by omega
    clear hlen hwf
    have HX := Lib.hid (fun W (h : Below w.heap.size w W) (i : Int) => At_int l i A n cap W HN.out hn1 HC.out (upR hrow h))
    have HR := Lib.hid (fun W (h : Below w.heap.size w W) (i : Int) => RefAt_int l i A n cap W HN.out hn1 HC.out (upR hrow h))
    have HK := Lib.hid (fun W (h : Below w.heap.size w W) => Check_any l A n cap W HN.out hn1 HC.out (upR hrow h))
    have HRK := Lib.hid (fun W (h : Below w.heap.size w W) => RefCheck_any l A n cap W HN.out hn1 HC.out (upR hrow h))
    go_enter Tryz.func3, Tryz.ntmps3
    go_wp2_with fail
    go_loopg [12] n (fun m s12 wr => ∃ k : Nat, s12 = .int .i64 (k : Int) ∧ m = n - k ∧ k ≤ n ∧ Below w.heap.size w wr)
    case atStart => exact ⟨0, rfl, rfl, Nat.zero_le _, Below.refl _ _⟩
    case round =>
      obtain ⟨k, rfl, rfl, hk, hB⟩ := hrel
      by_cases hlt : k < n
      · have hltz : (k : Int) < (n : Int) := by omega
        have HX1 := Lib.hid (fun W h => HX.out W h (k : Int))
        have HR1 := Lib.hid (fun W h => HR.out W h (k : Int))
        generalize atI l (k : Int) = x at HX1 HR1
        have hxx : (x != x) = false := by simp
        go_wp2_with (first
          | (go_at_call 5; refine (HX1.out _ hB).mono ?_; rintro e w1 ⟨rfl, hB1⟩; have hC1 := upB hB hB1)
          | (go_at_call 6; refine (HR1.out _ hC1).mono ?_; rintro e w2 ⟨rfl, hB2⟩; have hC2 := upB hC1 hB2)
          | fail)
        go_roundg (n - (k + 1))
        case measure => omega
        case rel => exact ⟨k + 1, by go_num, rfl, by omega, hC2⟩
      · obtain rfl : k = n := by omega
        have hltz : ¬ ((k : Nat) : Int) < (k : Int) := by omega
        have HX1 := Lib.hid (fun W h => HX.out W h z)
        have HR1 := Lib.hid (fun W h => HR.out W h z)
        generalize atI l z = x at HX1 HR1
        generalize chkC l = y at HK HRK
        have hxx : (x == x) = true := by simp
        have hyy : (y == y) = true := by simp
        go_wp2_with (first
          | (go_at_call 5; refine (HX1.out _ hB).mono ?_; rintro e w1 ⟨rfl, hB1⟩; have hC1 := upB hB hB1)
          | (go_at_call 6; refine (HR1.out _ hC1).mono ?_; rintro e w2 ⟨rfl, hB2⟩; have hC2 := upB hC1 hB2)
          | (go_at_call 7; refine (HK.out _ hC2).mono ?_; rintro e w3 ⟨rfl, hB3⟩; have hC3 := upB hC2 hB3)
          | (go_at_call 8; refine (HRK.out _ hC3).mono ?_; rintro e w4 ⟨rfl, hB4⟩; have hC4 := upB hC3 hB4)
          | (go_at_call 4; refine (HAW.out _).mono ?_; rintro e w90 ⟨rfl, hB90⟩)
          | fail)
        go_ret
        exact ⟨rfl, upB hC4 hB90⟩

/-! From the walk to the given statement. -/
set_option linter.unusedVariables false
theorem own : ownKnob Tryz.prog.godebug = none := by kernel_rfl
theorem laidOut : laidOutB Tryz.prog = true := by kernel_rfl
set_option maxRecDepth 100000 in
theorem lifted (os : Os) (started : os.Started) (H : Type) (enc : TypeId × Value → H) :
    ReturnsInHanded {} Tryz.checked os 3 .any (fun w args => (Rows.contextTellsSpec.pre enc Tryz.prog Tryz.f3 [] false w args ∧ laidMetH Tryz.prog Rows.contextTellsRow.laid w) ∧ sizedMet enc Tryz.prog Tryz.f3 (OpenSpec.ofChange Rows.contextTellsSpec) false w args)
      (Rows.contextTellsSpec.post enc Tryz.prog Tryz.f3 false true false false) := by
  refine returnsInHanded_of_change_and (C := Tryz.checked) (X := fun w _ => laidMetH Tryz.prog Rows.contextTellsRow.laid w) (fun _ _ _ hh h => h.of_heap hh) own started (by kernel_rfl) Tryz.func3
    (ChangeSpec.witness_shaped (enc := enc) (C := Tryz.checked) (os := os) (X := fun w _ => laidMetH Tryz.prog Rows.contextTellsRow.laid w) false (World.laidAll Tryz.prog os Rows.contextTellsRow.laid) #[.slice none 0 0, .int .i64 0] 8 (World.laidAll_os _ _ _)
      (World.shaped_of_ZipB (by kernel_rfl) (by kernel_rfl)) (by kernel_rfl) (by kernel_rfl) (by kernel_rfl)
      (by rw [MakeChecks.laidMetH_plain _ _ _ (by kernel_rfl)]; exact laidMet_laidAll _ (by kernel_rfl) (by kernel_rfl))) ?_
  intro W base args ds gs before hval0 hW _ _ hL _
  have hval : ∀ (j : Nat) t v, Tryz.f3.params[j]? = some t → args[j]? = some v → Value.okWide Tryz.prog W .any base t v := hval0
  have hW' := hW
  obtain ⟨p, q, hA0, hV, rfl, _, _⟩ := hW
  have hA : DataW.TrodAll enc Tryz.prog W 0 (fun _ => true) true Tryz.f3.params.toList args.toList ds p := hA0
  rw [Tryz.params3] at hA hval
  obtain ⟨v0, vs0, d0, ds0, p0, q0, hargs, rfl, rfl, h0, r0⟩ := trodAll_cons hA
  obtain ⟨v1, vs1, d1, ds1, p1, q1, rfl, rfl, rfl, h1, r1⟩ := trodAll_cons r0
  obtain ⟨rfl, rfl, rfl⟩ := trodAll_nil r1
  obtain rfl : args = #[v0, v1] := by cases args; simp_all
  obtain ⟨rfl, rfl⟩ := trodVars_none hV
  obtain ⟨a0, len0, cap0, rfl⟩ := okWide_slice Tryz.underlying22 (hval 0 22 v0 rfl rfl)
  have k0 := h0
  have lt0 : ∀ x ∈ p0, x.block < W.heap.size := by obtain ⟨m, hm⟩ := k0; exact DataW.trod_lt m _ _ _ hm
  obtain ⟨z0, w0⟩ := in_row Tryz.underlying22 Tryz.underlying21 (by kernel_rfl) h0
  obtain ⟨a1, rfl, rfl, rfl, w1⟩ := open_int Tryz.underlying3 (hval 1 3 v1 rfl rfl) h1
  have b1 : -9223372036854775808 ≤ a1 ∧ a1 ≤ 9223372036854775807 := by simpa [Lit.wf, IntKind.min, IntKind.max, IntKind.signed, IntKind.bits] using w1
  clear hA0 hval0
  refine (walk a0 len0 cap0 z0 a1 W w0 b1.1 b1.2).mono fun e W' ⟨he, bel⟩ => ?_
  subst he
  exact ⟨_, rfl, _, _, _, [], _, [], hW', trodAll_mk1 (shut_bool Tryz.underlying4 _), (trodAll_cons_mk (Below.trod laidOut (by kernel_rfl) (of_decide_eq_true (by kernel_rfl)) k0 bel lt0) (trodAll_cons_mk (shut_int Tryz.underlying3 w1) trodAll_mk0)), rfl, bel.frame _, fun h => by cases h⟩

theorem row_holds : Rows.ContextTellsSaid :=
  OpenClaim.holds_of_wide 3 Tryz.f3 rfl rfl rfl rfl rfl rfl rfl ⟨rfl, rfl, rfl, rfl, rfl⟩ rfl rfl rfl rfl rfl (by kernel_rfl) Tryz.func3 (by kernel_rfl)
    (of_decide_eq_true (by kernel_rfl)) (by unfold Func.isWrapper; first | (rw [if_pos (by decide +kernel)]; kernel_rfl) | (rw [if_neg (by decide +kernel)]; exact ⟨rfl, rfl⟩))
    (fun os started H enc _ => lifted os started H enc)

theorem proved : Rows.ContextTellsCardSaid :=
  Claim7.holds_tied_plain_at .later [] [.data, .data, .data, .data, .sentinel, .sentinel, .pinned] true (true, "ecbbf9722e0413cb5113be87cddab2b648b49d7f858c7f96b3a4e688391d5225") true
    row_holds (fun _ h => by cases h) (by kernel_rfl) (fun _ h => by cases h) contextTells_row_tie rfl ⟨rfl, rfl⟩ (by kernel_rfl) rfl
    (fun f fn hf hfn => by
      obtain rfl : f = 3 := Option.some.inj ((show Tryz.prog.funcNamed "fascia/fascialaw08.ContextTells" = some 3 by kernel_rfl).symm.trans hf) |>.symm
      obtain rfl : fn = Tryz.f3 := (Option.some.inj (Tryz.func3.symm.trans hfn)).symm
      exact ⟨by kernel_rfl, fun j t ht => by
        rw [Tryz.params3] at ht
        have hm : t ∈ [22, 3] := by simpa using Array.mem_of_getElem? ht
        have hall : ([22, 3].all fun u => !Tryz.prog.wantsStandIn u) = true := by kernel_rfl
        exact (show Tryz.prog.wantsStandIn t = false by simpa using List.all_eq_true.1 hall t hm)⟩)
    (by kernel_rfl)
end Go.Proofs.YtmeihnhghdmjiaaGreatDoor.contextTells
