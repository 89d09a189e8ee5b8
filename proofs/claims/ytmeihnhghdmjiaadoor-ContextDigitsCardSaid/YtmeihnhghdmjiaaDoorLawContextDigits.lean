/-
  For any label (up to 100): digits of both kinds of Arabic fail in one label, all of them, wherever they stand; of one kind none does; the dot of Katakana fails just where nobody is of its scripts, or of Han (fascialaw08.ContextDigits answers true). No condition.
-/
import Derived.Test.YtmeihnhghdmjiaaDoorCtxI
import Derived.Test.YtmeihnhghdmjiaaDoorFrame
import Derived.BigQuiet
import Derived.Deep.QuietTactic
import Derived.Test.YtmeihnhghdmjiaaDoorTie
import Derived.Test.YtmeihnhghdmjiaaDoorCards
import Derived.ProofKit
import Derived.Lay
import Derived.Stop.Joined
import Derived.SevenTiedAt
namespace Go.Proofs.YtmeihnhghdmjiaaDoor.contextDigits
open Go.ChangeShapes Go.WideShapes Go.ChangeAt Go.RowKit Ctx Ucd

theorem in_c32 {zs : List Int} (h : ∀ n ∈ zs, (Lit.int .i32 n).wf = true) : C32 zs := fun x hx => by
  have := h x hx
  simp [Lit.wf, IntKind.min, IntKind.max, IntKind.bits, IntKind.signed] at this
  omega
def prV (p : List Int) : Array Value := #[.int .u8 (g p 0), .int .u8 (g p 1), .int .u8 (g p 2), .int .u8 (g p 3), .int .u8 (g p 4), .int .u8 (g p 5), .int .u8 (g p 6)]
theorem pr_cell {w : World} {X : Nat} {p : List Int} (h : w.heap[X]? = some (.cells (prV p) 29 (0, 0))) : w.cell? ⟨X, 4, none⟩ = some (.int .u8 (g p 4)) ∧ w.cell? ⟨X, 5, none⟩ = some (.int .u8 (g p 5)) := by
  unfold prV at h
  simp [World.cell?, h]
set_option maxRecDepth 100000 in
set_option maxHeartbeats 2000000 in
theorem walk (A : Option Addr) (n cap : Nat) (l : List Int) (w : World) (hin : InRow .i32 w A n cap l) : Calls Tryd.prog 6 #[.slice A n cap] w fun e w' => e = .returned (.bool true) ∧ Below w.heap.size w w' := by
  obtain ⟨hlen, _, _, hrow, hwf⟩ := hin
  have HAW := Lib.hid awake8_any
  by_cases h100 : 100 < n
  · have h100z : (100 : Int) < (n : Int) := by omega
    go_enter Tryd.func6, Tryd.ntmps6
    go_wp2_with (first | (go_at_call 7; refine (HAW.out _).mono ?_; rintro e w90 ⟨rfl, hB90⟩) | fail)
    go_ret
    exact ⟨rfl, hB90⟩
  · have h100z : ¬ (100 : Int) < (n : Int) := by omega
    have HN := Lib.hid hlen
    have HC := Lib.hid (in_c32 hwf)
    have hn1 : n ≤ 1000000 := by omega
    clear hlen hwf
    go_enter Tryd.func6, Tryd.ntmps6
    go_wp2_with fail
    go_loopg [3, 4, 5, 19] n (fun m s3 s4 s5 s19 wr => ∃ k : Nat, ∃ a3 a4 a5 : Bool, s19 = .int .i64 (k : Int) ∧ s3 = .bool a3 ∧ s4 = .bool a4 ∧ s5 = .bool a5 ∧ m = n - k ∧ k ≤ n ∧ Hid ((l.take k).any ara = a3) ∧ Hid ((l.take k).any eas = a4) ∧ Hid ((l.take k).any jap = a5) ∧ Below w.heap.size w wr)
    case atStart => exact ⟨0, false, false, false, rfl, rfl, rfl, rfl, rfl, Nat.zero_le _, Lib.hid rfl, Lib.hid rfl, Lib.hid rfl, Below.refl _ _⟩
    case round =>
      obtain ⟨k, a3, a4, a5, rfl, rfl, rfl, rfl, rfl, hk, H3, H4, H5, hB⟩ := hrel
      by_cases hlt : k < n
      · have hltz : (k : Int) < (n : Int) := by omega
        obtain ⟨b, o, rfl, hb, hcc⟩ := (hrow.below hB).at_ (by have := HN.out; simp; omega)
        have c0 := row_cell hcc k (by rw [HN.out]; exact hlt)
        have N3 := any_take_succ ara (by rw [HN.out]; exact hlt)
        have N4 := any_take_succ eas (by rw [HN.out]; exact hlt)
        have N5 := any_take_succ jap (by rw [HN.out]; exact hlt)
        rw [H3.out] at N3
        rw [H4.out] at N4
        rw [H5.out] at N5
        obtain ⟨r, hr0⟩ : ∃ r, l[k]! = r := ⟨_, rfl⟩
        rw [hr0] at c0 N3 N4 N5
        have HO := Lib.hid (fun w => Of_any r w)
        rw [← dg_ara] at N3
        rw [← dg_eas] at N4
        unfold jap sc at N5
        unfold dg at N3 N4
        generalize of r = p at HO N3 N4 N5
        have M3 := Lib.hid N3
        have M4 := Lib.hid N4
        have M5 := Lib.hid N5
        clear hcc hr0 N3 N4 N5 H3 H4 H5
        go_upto_region 8 with (first | (go_at_call 11; refine (HO.out _).mono ?_; rintro e w1 ⟨rfl, hB1⟩) | fail)
        have hX := alloc_new w1 (.cells #[.int .u8 (g p 0), .int .u8 (g p 1), .int .u8 (g p 2), .int .u8 (g p 3), .int .u8 (g p 4), .int .u8 (g p 5), .int .u8 (g p 6)] 29)
        have hB2 := (hB.trans (hB1.mono hB.size)).alloc (hB.trans (hB1.mono hB.size)).size (.cells #[.int .u8 (g p 0), .int .u8 (g p 1), .int .u8 (g p 2), .int .u8 (g p 3), .int .u8 (g p 4), .int .u8 (g p 5), .int .u8 (g p 6)] 29)
        generalize w1.alloc (.cells #[.int .u8 (g p 0), .int .u8 (g p 1), .int .u8 (g p 2), .int .u8 (g p 3), .int .u8 (g p 4), .int .u8 (g p 5), .int .u8 (g p 6)] 29) = W1 at hX hB2 ⊢
        generalize w1.heap.size = X at hX ⊢
        obtain ⟨e4, e5⟩ := pr_cell hX
        clear hB hB1 hX HO c0
        generalize pv p = P7
        generalize g p 5 = y at e5 M3 M4 ⊢
        generalize g p 4 = z at e4 M5 ⊢
        have HQ : Hid (∀ q, Below w.heap.size w (W1.drewN q) ∧ (W1.drewN q).cell? ⟨X, 4, none⟩ = some (.int .u8 z)) := Lib.hid (fun q => ⟨⟨hB2.os, hB2.tape, hB2.output, hB2.size, hB2.block⟩, e4⟩)
        go_cut [3, 4] (fun s3 s4 wx => s3 = .bool (a3 || decide (y = 2)) ∧ s4 = .bool (a4 || decide (y = 3)) ∧ Below w.heap.size w wx ∧ wx.cell? ⟨X, 4, none⟩ = some (.int .u8 z))
        case first =>
          cases a3 <;> cases a4 <;> (
            go_quiet (fail)
            obtain ⟨hbq, hcq⟩ := HQ.out nq
            go_wp2_with fail
            go_meet
            exact ⟨by first | rfl | simp, by first | rfl | simp, hbq, hcq⟩)
        case rest =>
          obtain ⟨rfl, rfl, hB3, f4⟩ := hcut
          clear hB2 e4 e5
          generalize wc = W3 at hB3 f4 ⊢
          cases a5 with
          | true =>
            go_wp2_with fail
            go_roundg (n - (k + 1))
            case measure => omega
            case rel => exact ⟨k + 1, _, _, _, by go_num, rfl, rfl, rfl, rfl, by omega, M3, M4, Lib.hid (M5.out.trans (by first | rfl | simp)), hB3⟩
          | false =>
            by_cases h9 : z = 9
            · subst h9
              go_wp2_with fail
              go_roundg (n - (k + 1))
              case measure => omega
              case rel => exact ⟨k + 1, _, _, _, by go_num, rfl, rfl, rfl, rfl, by omega, M3, M4, Lib.hid (M5.out.trans (by first | rfl | simp)), hB3⟩
            · by_cases h10 : z = 10
              · subst h10
                go_wp2_with fail
                go_roundg (n - (k + 1))
                case measure => omega
                case rel => exact ⟨k + 1, _, _, _, by go_num, rfl, rfl, rfl, rfl, by omega, M3, M4, Lib.hid (M5.out.trans (by first | rfl | simp)), hB3⟩
              · have h9b : (z == 9) = false := by simpa using h9
                have h10b : (z == 10) = false := by simpa using h10
                go_wp2_with fail
                go_roundg (n - (k + 1))
                case measure => omega
                case rel => exact ⟨k + 1, _, _, _, by go_num, rfl, rfl, rfl, rfl, by omega, M3, M4, Lib.hid (M5.out.trans (by first | rfl | simp [h9, h10]; done | (simp only [h9, h10]; cases hz : decide (z = 8) <;> simp_all))), hB3⟩
      · obtain rfl : k = n := by omega
        have hltz : ¬ ((k : Nat) : Int) < (k : Int) := by omega
        have G3 : Hid (l.any ara = a3) := Lib.hid (by rw [← H3.out, List.take_of_length_le (by rw [HN.out]; exact Nat.le_refl _)])
        have G4 : Hid (l.any eas = a4) := Lib.hid (by rw [← H4.out, List.take_of_length_le (by rw [HN.out]; exact Nat.le_refl _)])
        have G5 : Hid (l.any jap = a5) := Lib.hid (by rw [← H5.out, List.take_of_length_le (by rw [HN.out]; exact Nat.le_refl _)])
        clear H3 H4 H5
        go_wp2_with fail
        go_loopg [56] k (fun m s56 wr => ∃ j : Nat, s56 = .int .i64 (j : Int) ∧ m = k - j ∧ j ≤ k ∧ Below w.heap.size w wr)
        case atStart => exact ⟨0, rfl, rfl, Nat.zero_le _, hB⟩
        case round =>
          clear hB
          obtain ⟨j, rfl, rfl, hj, hB⟩ := hrel
          by_cases hlt2 : j < k
          · have hltz2 : (j : Int) < (k : Int) := by omega
            obtain ⟨b, o, rfl, hb, hcc⟩ := (hrow.below hB).at_ (by have := HN.out; simp; omega)
            have c0 := row_cell hcc j (by rw [HN.out]; exact hlt2)
            have HA := Lib.hid (fun W (h : Below w.heap.size w W) => At_any l j _ _ cap W HN.out hlt2 hn1 HC.out (upR hrow h))
            have E3 : Hid (ara l[j]! = true → atC l j = if (a3 && a4) = true then 8 else 0) := Lib.hid (fun h => by rw [atC_ara (by rw [HN.out]; exact hlt2) h, G3.out, G4.out])
            have E4 : Hid (eas l[j]! = true → atC l j = if (a3 && a4) = true then 8 else 0) := Lib.hid (fun h => by rw [atC_eas (by rw [HN.out]; exact hlt2) h, G3.out, G4.out])
            have E5 : Hid (l[j]! = 12539 → atC l j = if a5 = true then 0 else 8) := Lib.hid (fun h => by rw [atC_kana h, G5.out])
            obtain ⟨r, hr0⟩ : ∃ r, l[j]! = r := ⟨_, rfl⟩
            rw [hr0] at c0 E3 E4 E5
            have HO := Lib.hid (fun w => Of_any r w)
            rw [← dg_ara] at E3
            rw [← dg_eas] at E4
            unfold dg at E3 E4
            generalize of r = p at HO E3 E4
            generalize atC l j = c at HA E3 E4 E5
            clear hcc hr0
            go_upto_region 15 with (first | (go_at_call 11; refine (HO.out _).mono ?_; rintro e w1 ⟨rfl, hB1⟩; have hB1' := hB.trans (hB1.mono hB.size)) | (go_at_call 8; refine (HA.out _ hB1').mono ?_; rintro e w2 ⟨rfl, hB2⟩) | fail)
            have hX := alloc_new w2 (.cells #[.int .u8 (g p 0), .int .u8 (g p 1), .int .u8 (g p 2), .int .u8 (g p 3), .int .u8 (g p 4), .int .u8 (g p 5), .int .u8 (g p 6)] 29)
            have hB3 := (hB1'.trans (hB2.mono hB1'.size)).alloc (hB1'.trans (hB2.mono hB1'.size)).size (.cells #[.int .u8 (g p 0), .int .u8 (g p 1), .int .u8 (g p 2), .int .u8 (g p 3), .int .u8 (g p 4), .int .u8 (g p 5), .int .u8 (g p 6)] 29)
            generalize w2.alloc (.cells #[.int .u8 (g p 0), .int .u8 (g p 1), .int .u8 (g p 2), .int .u8 (g p 3), .int .u8 (g p 4), .int .u8 (g p 5), .int .u8 (g p 6)] 29) = W1 at hX hB3 ⊢
            generalize w2.heap.size = X at hX ⊢
            obtain ⟨e4, e5⟩ := pr_cell hX
            clear hB hB1 hB1' hB2 hX HO HA c0 hn1
            generalize pv p = P7
            generalize g p 5 = y at e5 E3 E4 ⊢
            by_cases h2 : y = 2
            · subst h2
              have hc := E3.out rfl
              clear E3 E4 E5
              cases a3 <;> cases a4 <;> (
                simp at hc
                subst hc
                go_wp2_with fail
                go_roundg (k - (j + 1))
                case measure => omega
                case rel => exact ⟨j + 1, by go_num, rfl, by omega, hB3⟩)
            · by_cases h3 : y = 3
              · subst h3
                have hc := E4.out rfl
                clear E3 E4 E5
                cases a3 <;> cases a4 <;> (
                  simp at hc
                  subst hc
                  go_wp2_with fail
                  go_roundg (k - (j + 1))
                  case measure => omega
                  case rel => exact ⟨j + 1, by go_num, rfl, by omega, hB3⟩)
              · have h2b : (y == 2) = false := by simpa using h2
                have h3b : (y == 3) = false := by simpa using h3
                by_cases hr : r = 12539
                · subst hr
                  have hc := E5.out rfl
                  clear E3 E4 E5
                  cases a5 <;> (
                    simp at hc
                    subst hc
                    go_wp2_with fail
                    go_roundg (k - (j + 1))
                    case measure => omega
                    case rel => exact ⟨j + 1, by go_num, rfl, by omega, hB3⟩)
                · have hrb : (r == 12539) = false := by simpa using hr
                  clear E3 E4 E5
                  go_wp2_with fail
                  go_roundg (k - (j + 1))
                  case measure => omega
                  case rel => exact ⟨j + 1, by go_num, rfl, by omega, hB3⟩
          · obtain rfl : j = k := by omega
            have hltz2 : ¬ ((j : Nat) : Int) < (j : Int) := by omega
            go_wp2_with (first | (go_at_call 7; refine (HAW.out _).mono ?_; rintro e w90 ⟨rfl, hB90⟩) | fail)
            go_ret
            exact ⟨rfl, upB hB hB90⟩

/-! From the walk to the given statement. -/
set_option linter.unusedVariables false
theorem own : ownKnob Tryd.prog.godebug = none := by kernel_rfl
theorem laidOut : laidOutB Tryd.prog = true := by kernel_rfl
set_option maxRecDepth 100000 in
theorem lifted (os : Os) (started : os.Started) (H : Type) (enc : TypeId × Value → H) :
    ReturnsInHanded {} Tryd.checked os 6 .any (fun w args => (Rows.contextDigitsSpec.pre enc Tryd.prog Tryd.f6 [] false w args ∧ laidMetH Tryd.prog Rows.contextDigitsRow.laid w) ∧ sizedMet enc Tryd.prog Tryd.f6 (OpenSpec.ofChange Rows.contextDigitsSpec) false w args)
      (Rows.contextDigitsSpec.post enc Tryd.prog Tryd.f6 false true false false) := by
  refine returnsInHanded_of_change_and (C := Tryd.checked) (X := fun w _ => laidMetH Tryd.prog Rows.contextDigitsRow.laid w) (fun _ _ _ hh h => h.of_heap hh) own started (by kernel_rfl) Tryd.func6
    (ChangeSpec.witness_shaped (enc := enc) (C := Tryd.checked) (os := os) (X := fun w _ => laidMetH Tryd.prog Rows.contextDigitsRow.laid w) false (World.laidAll Tryd.prog os Rows.contextDigitsRow.laid) #[.slice none 0 0] 8 (World.laidAll_os _ _ _)
      (World.shaped_of_ZipB (by kernel_rfl) (by kernel_rfl)) (by kernel_rfl) (by kernel_rfl) (by kernel_rfl)
      (by rw [MakeChecks.laidMetH_plain _ _ _ (by kernel_rfl)]; exact laidMet_laidAll _ (by kernel_rfl) (by kernel_rfl))) ?_
  intro W base args ds gs before hval0 hW _ _ hL _
  have hval : ∀ (j : Nat) t v, Tryd.f6.params[j]? = some t → args[j]? = some v → Value.okWide Tryd.prog W .any base t v := hval0
  have hW' := hW
  obtain ⟨p, q, hA0, hV, rfl, _, _⟩ := hW
  have hA : DataW.TrodAll enc Tryd.prog W 0 (fun _ => true) true Tryd.f6.params.toList args.toList ds p := hA0
  rw [Tryd.params6] at hA hval
  obtain ⟨v0, vs0, d0, ds0, p0, q0, hargs, rfl, rfl, h0, r0⟩ := trodAll_cons hA
  obtain ⟨rfl, rfl, rfl⟩ := trodAll_nil r0
  obtain rfl : args = #[v0] := by cases args; simp_all
  obtain ⟨rfl, rfl⟩ := trodVars_none hV
  obtain ⟨a0, len0, cap0, rfl⟩ := okWide_slice Tryd.underlying22 (hval 0 22 v0 rfl rfl)
  have k0 := h0
  have lt0 : ∀ x ∈ p0, x.block < W.heap.size := by obtain ⟨m, hm⟩ := k0; exact DataW.trod_lt m _ _ _ hm
  obtain ⟨z0, w0⟩ := in_row Tryd.underlying22 Tryd.underlying21 (by kernel_rfl) h0
  clear hA0 hval0
  refine (walk a0 len0 cap0 z0 W w0).mono fun e W' ⟨he, bel⟩ => ?_
  subst he
  exact ⟨_, rfl, _, _, _, [], _, [], hW', trodAll_mk1 (shut_bool Tryd.underlying4 _), (trodAll_cons_mk (Below.trod laidOut (by kernel_rfl) (of_decide_eq_true (by kernel_rfl)) k0 bel lt0) trodAll_mk0), rfl, bel.frame _, fun h => by cases h⟩

theorem row_holds : Rows.ContextDigitsSaid :=
  OpenClaim.holds_of_wide 6 Tryd.f6 rfl rfl rfl rfl rfl rfl rfl ⟨rfl, rfl, rfl, rfl, rfl⟩ rfl rfl rfl rfl rfl (by kernel_rfl) Tryd.func6 (by kernel_rfl)
    (of_decide_eq_true (by kernel_rfl)) (by unfold Func.isWrapper; first | (rw [if_pos (by decide +kernel)]; kernel_rfl) | (rw [if_neg (by decide +kernel)]; exact ⟨rfl, rfl⟩))
    (fun os started H enc _ => lifted os started H enc)

theorem proved : Rows.ContextDigitsCardSaid :=
  Claim7.holds_tied_plain_at .later [] [.data, .data, .data, .data, .sentinel, .sentinel, .pinned] true (true, "557149538dbcd7314170ba4795fc53a2613e285518a0dbac65e85b853dd9bb05") true
    row_holds (fun _ h => by cases h) (by kernel_rfl) (fun _ h => by cases h) contextDigits_row_tie rfl ⟨rfl, rfl⟩ (by kernel_rfl) rfl
    (fun f fn hf hfn => by
      obtain rfl : f = 6 := Option.some.inj ((show Tryd.prog.funcNamed "fascia/fascialaw08.ContextDigits" = some 6 by kernel_rfl).symm.trans hf) |>.symm
      obtain rfl : fn = Tryd.f6 := (Option.some.inj (Tryd.func6.symm.trans hfn)).symm
      exact ⟨by kernel_rfl, fun j t ht => by
        rw [Tryd.params6] at ht
        have hm : t ∈ [22] := by simpa using Array.mem_of_getElem? ht
        have hall : ([22].all fun u => !Tryd.prog.wantsStandIn u) = true := by kernel_rfl
        exact (show Tryd.prog.wantsStandIn t = false by simpa using List.all_eq_true.1 hall t hm)⟩)
    (by kernel_rfl)
end Go.Proofs.YtmeihnhghdmjiaaDoor.contextDigits
