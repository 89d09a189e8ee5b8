/-
  For any label (up to 100) that fails nothing, any place: with a letter of the other direction put anywhere behind its first code point it fails ClauseInside; with a letter of its own at its end, or its beginning, nothing; with a hyphen at its end ClauseLast, at its beginning ClauseFirst (fascialaw09.RulePut answers true). No condition.
-/
import Derived.Test.YtnmijmhgmcapcaaDoorRulJ
import Derived.Test.YtnmijmhgmcapcaaDoorFrame
import Derived.Deep.DeepCutAuto
import Derived.Test.YtnmijmhgmcapcaaDoorTie
import Derived.Test.YtnmijmhgmcapcaaDoorCards
import Derived.ProofKit
import Derived.Lay
import Derived.Stop.Joined
import Derived.SevenTiedAt
namespace Go.Proofs.YtnmijmhgmcapcaaDoor.rulePut
open Go.ChangeShapes Go.WideShapes Go.ChangeAt Go.RowKit Rul Ucd

set_option maxRecDepth 100000 in
set_option maxHeartbeats 4000000 in
theorem walk (A : Option Addr) (n cap : Nat) (l : List Int) (a : Int) (w : World) (hin : InRow .i32 w A n cap l) (ha0 : 0 ≤ a) (_ha1 : a ≤ 255) : Calls Tryd.prog 7 #[.slice A n cap, .int .u8 a] w fun e w' => e = .returned (.bool true) ∧ Below w.heap.size w w' := by
  obtain ⟨hlen, hcap, _, hrow, hwf⟩ := hin
  have HAW := Lib.hid awake9_any
  have hW1 := upA w (.cells #[.slice A n cap] 22)
  have hbx := World.alloc_heap_new w (.cells #[.slice A n cap] 22)
  have hxl : w.heap.size < (w.alloc (.cells #[.slice A n cap] 22)).heap.size := by simp
  by_cases h100 : 100 < n
  · have h100z : (100 : Int) < (n : Int) := by omega
    clear hrow hlen hwf
    go_enter Tryd.func7, Tryd.ntmps7
    go_wp2_with (first | (go_at_call 12; refine (HAW.out _).mono ?_; rintro e w90 ⟨rfl, hB90⟩) | fail)
    go_ret
    exact ⟨rfl, upB hW1 hB90⟩
  · have h100z : ¬ (100 : Int) < (n : Int) := by omega
    by_cases h0 : n = 0
    · subst h0
      clear hrow hlen hwf
      go_enter Tryd.func7, Tryd.ntmps7
      go_wp2_with (first | (go_at_call 12; refine (HAW.out _).mono ?_; rintro e w90 ⟨rfl, hB90⟩) | fail)
      go_ret
      exact ⟨rfl, upB hW1 hB90⟩
    · have hn0b : ((n : Int) == 0) = false := by simp; omega
      have hn1 : n ≤ 100 := by omega
      have HK := Lib.hid (Check_any l A n cap (w.alloc (.cells #[.slice A n cap] 22)) hlen (by omega) (upR hrow hW1))
      by_cases hz : chk l = 0
      · obtain ⟨r0, t, own, other, hl, hcs, P1, P2, P3, P4, P5⟩ := put_all hz
        rw [hz] at HK
        rw [hlen] at P1 P2 P4
        obtain ⟨i, hi0⟩ : ∃ i : Nat, a.tmod (n : Int) = (i : Int) := ⟨(a.tmod (n : Int)).toNat, by
          have := Int.emod_nonneg a (b := (n : Int)) (by omega)
          rw [Int.tmod_eq_emod_of_nonneg ha0]; omega⟩
        have hin : i < n := by
          have := Int.emod_lt_of_pos a (b := (n : Int)) (by omega)
          rw [Int.tmod_eq_emod_of_nonneg ha0] at hi0; omega
        obtain ⟨k, hk⟩ : ∃ k : Nat, 1 + i = k := ⟨_, rfl⟩
        have hkz : (1 : Int) + (i : Int) = (k : Int) := by omega
        have hk0 : 0 < k := by omega
        have hkn : k ≤ n := by omega
        have hwa : IntKind.i64.wrap a = a := IntWalk.i64_in _ (by omega)
        obtain ⟨b, o, hA, hb', hcc⟩ := hrow.at_ (by rw [List.length_map]; omega)
        have c0 := row_cell hcc 0 (by omega)
        rw [Nat.add_zero, hl, show (r0 :: t)[0]! = r0 from rfl] at c0
        have HP := Lib.hid (fun r k y W (h : Below (w.alloc (.cells #[.slice A n cap] 22)).heap.size (w.alloc (.cells #[.slice A n cap] 22)) W) (hk : k ≤ n) (hy : chk (l.take k ++ r :: l.drop k) = y) =>
          puts l A n cap w.heap.size r k y W hlen (by omega) hk hcap ((h.cell (p := ⟨w.heap.size, 0, none⟩) hxl).trans (by simp only [World.cell?]; rw [hbx]; rfl)) (Nat.lt_of_lt_of_le hxl h.size) (upR (upR hrow hW1) h) hy)
        have HP1 := Lib.hid (fun W h => HP.out other k 10 W h hkn (P1 k hk0 hkn))
        have HP2 := Lib.hid (fun W h => HP.out own n 0 W h (Nat.le_refl _) P2)
        have HP3 := Lib.hid (fun W h => HP.out own 0 0 W h (Nat.zero_le _) P3)
        have HP4 := Lib.hid (fun W h => HP.out 45 n 11 W h (Nat.le_refl _) P4)
        have HP5 := Lib.hid (fun W h => HP.out 45 0 9 W h (Nat.zero_le _) P5)
        have HO := Lib.hid (fun w => Of_any r0 w)
        have HF := fld1 (of r0)
        unfold bc at hcs
        generalize of r0 = p at HO HF hcs
        obtain ⟨z, hzz⟩ : ∃ z, g p 1 = z := ⟨_, rfl⟩
        rw [hzz] at HF hcs
        subst hA
        have c0' : (w.alloc (.cells #[.slice (some ⟨b, o, none⟩) n cap] 22)).cell? ⟨b, o, none⟩ = some (.int .i32 r0) := (hW1.cell (p := ⟨b, o, none⟩) hb').trans c0
        have hX1 : (w.alloc (.cells #[.slice (some ⟨b, o, none⟩) n cap] 22)).cell? ⟨w.heap.size, 0, none⟩ = some (.slice (some ⟨b, o, none⟩) n cap) := by simp only [World.cell?]; rw [hbx]; rfl
        have HBX : Hid (∀ W, Below (w.alloc (.cells #[.slice (some ⟨b, o, none⟩) n cap] 22)).heap.size (w.alloc (.cells #[.slice (some ⟨b, o, none⟩) n cap] 22)) W → W.cell? ⟨w.heap.size, 0, none⟩ = some (.slice (some ⟨b, o, none⟩) n cap) ∧ W.cell? ⟨b, o, none⟩ = some (.int .i32 r0)) := Lib.hid (fun W h => ⟨(h.cell (p := ⟨w.heap.size, 0, none⟩) hxl).trans hX1, (h.cell (p := ⟨b, o, none⟩) (Nat.lt_of_lt_of_le hb' hW1.size)).trans c0'⟩)
        clear hz hl hzz hlen hwf hrow hcc c0 HP P1 P2 P3 P4 P5 hbx hk
        rcases hcs with ⟨rfl, rfl, rfl⟩ | ⟨hz0, rfl, rfl⟩
        · go_enter Tryd.func7, Tryd.ntmps7
          go_upto_region 3 with (first | (go_at_call 10; refine HK.out.mono ?_; rintro e w1 ⟨rfl, hB1⟩) | fail)
          obtain ⟨x1, y1⟩ := HBX.out _ hB1
          go_upto_region 6 with (first | (go_at_call 13; refine (HO.out _).mono ?_; rintro e w2 ⟨rfl, hB2⟩; have hC2 := upB hB1 hB2) | fail)
          obtain ⟨x2, y2⟩ := HBX.out _ hC2
          clear x1 y1 y2
          go_upto_region 8 with fail
          go_wp2_with (first
            | (go_at_call 15; refine (HP5.out _ hC6).mono ?_; rintro e w7 ⟨rfl, hB7⟩; have hC7 := upB hC6 hB7)
            | (go_at_call 15; refine (HP4.out _ hC5).mono ?_; rintro e w6 ⟨rfl, hB6⟩; have hC6 := upB hC5 hB6)
            | (go_at_call 15; refine (HP3.out _ hC4).mono ?_; rintro e w5 ⟨rfl, hB5⟩; have hC5 := upB hC4 hB5; have x5 := (HBX.out _ hC5).1)
            | (go_at_call 15; refine (HP2.out _ hC3).mono ?_; rintro e w4 ⟨rfl, hB4⟩; have hC4 := upB hC3 hB4)
            | (go_at_call 15; refine (HP1.out _ hC2).mono ?_; rintro e w3 ⟨rfl, hB3⟩; have hC3 := upB hC2 hB3; have x3 := (HBX.out _ hC3).1)
            | (go_at_call 12; refine (HAW.out _).mono ?_; rintro e w90 ⟨rfl, hB90⟩)
            | fail)
          go_ret
          exact ⟨rfl, upB (upB hW1 hC7) hB90⟩
        · have hz0b : (z == 0) = false := by simpa using hz0
          go_enter Tryd.func7, Tryd.ntmps7
          go_upto_region 3 with (first | (go_at_call 10; refine HK.out.mono ?_; rintro e w1 ⟨rfl, hB1⟩) | fail)
          obtain ⟨x1, y1⟩ := HBX.out _ hB1
          go_upto_region 5 with (first | (go_at_call 13; refine (HO.out _).mono ?_; rintro e w2 ⟨rfl, hB2⟩; have hC2 := upB hB1 hB2) | fail)
          obtain ⟨x2, y2⟩ := HBX.out _ hC2
          clear x1 y1 y2
          go_upto_region 8 with fail
          go_wp2_with (first
            | (go_at_call 15; refine (HP5.out _ hC6).mono ?_; rintro e w7 ⟨rfl, hB7⟩; have hC7 := upB hC6 hB7)
            | (go_at_call 15; refine (HP4.out _ hC5).mono ?_; rintro e w6 ⟨rfl, hB6⟩; have hC6 := upB hC5 hB6)
            | (go_at_call 15; refine (HP3.out _ hC4).mono ?_; rintro e w5 ⟨rfl, hB5⟩; have hC5 := upB hC4 hB5; have x5 := (HBX.out _ hC5).1)
            | (go_at_call 15; refine (HP2.out _ hC3).mono ?_; rintro e w4 ⟨rfl, hB4⟩; have hC4 := upB hC3 hB4)
            | (go_at_call 15; refine (HP1.out _ hC2).mono ?_; rintro e w3 ⟨rfl, hB3⟩; have hC3 := upB hC2 hB3; have x3 := (HBX.out _ hC3).1)
            | (go_at_call 12; refine (HAW.out _).mono ?_; rintro e w90 ⟨rfl, hB90⟩)
            | fail)
          go_ret
          exact ⟨rfl, upB (upB hW1 hC7) hB90⟩
      · have hzb : (chk l == 0) = false := by simpa using hz
        generalize chk l = y at HK hzb
        clear hrow hlen hwf hz hbx
        go_enter Tryd.func7, Tryd.ntmps7
        go_wp2_with (first
          | (go_at_call 10; refine HK.out.mono ?_; rintro e w1 ⟨rfl, hB1⟩)
          | (go_at_call 12; refine (HAW.out _).mono ?_; rintro e w90 ⟨rfl, hB90⟩)
          | fail)
        go_ret
        exact ⟨rfl, upB (upB hW1 hB1) hB90⟩

/-! From the walk to the given statement. -/
set_option linter.unusedVariables false
theorem own : ownKnob Tryd.prog.godebug = none := by kernel_rfl
theorem laidOut : laidOutB Tryd.prog = true := by kernel_rfl
set_option maxRecDepth 100000 in
theorem lifted (os : Os) (started : os.Started) (H : Type) (enc : TypeId × Value → H) :
    ReturnsInHanded {} Tryd.checked os 7 .any (fun w args => (Rows.rulePutSpec.pre enc Tryd.prog Tryd.f7 [] false w args ∧ laidMetH Tryd.prog Rows.rulePutRow.laid w) ∧ sizedMet enc Tryd.prog Tryd.f7 (OpenSpec.ofChange Rows.rulePutSpec) false w args)
      (Rows.rulePutSpec.post enc Tryd.prog Tryd.f7 false true false false) := by
  refine returnsInHanded_of_change_and (C := Tryd.checked) (X := fun w _ => laidMetH Tryd.prog Rows.rulePutRow.laid w) (fun _ _ _ hh h => h.of_heap hh) own started (by kernel_rfl) Tryd.func7
    (ChangeSpec.witness_shaped (enc := enc) (C := Tryd.checked) (os := os) (X := fun w _ => laidMetH Tryd.prog Rows.rulePutRow.laid w) false (World.laidAll Tryd.prog os Rows.rulePutRow.laid) #[.slice none 0 0, .int .u8 0] 8 (World.laidAll_os _ _ _)
      (World.shaped_of_ZipB (by kernel_rfl) (by kernel_rfl)) (by kernel_rfl) (by kernel_rfl) (by kernel_rfl)
      (by rw [MakeChecks.laidMetH_plain _ _ _ (by kernel_rfl)]; exact laidMet_laidAll _ (by kernel_rfl) (by kernel_rfl))) ?_
  intro W base args ds gs before hval0 hW _ _ hL _
  have hval : ∀ (j : Nat) t v, Tryd.f7.params[j]? = some t → args[j]? = some v → Value.okWide Tryd.prog W .any base t v := hval0
  have hW' := hW
  obtain ⟨p, q, hA0, hV, rfl, _, _⟩ := hW
  have hA : DataW.TrodAll enc Tryd.prog W 0 (fun _ => true) true Tryd.f7.params.toList args.toList ds p := hA0
  rw [Tryd.params7] at hA hval
  obtain ⟨v0, vs0, d0, ds0, p0, q0, hargs, rfl, rfl, h0, r0⟩ := trodAll_cons hA
  obtain ⟨v1, vs1, d1, ds1, p1, q1, rfl, rfl, rfl, h1, r1⟩ := trodAll_cons r0
  obtain ⟨rfl, rfl, rfl⟩ := trodAll_nil r1
  obtain rfl : args = #[v0, v1] := by cases args; simp_all
  obtain ⟨rfl, rfl⟩ := trodVars_none hV
  obtain ⟨a0, len0, cap0, rfl⟩ := okWide_slice Tryd.underlying22 (hval 0 22 v0 rfl rfl)
  have k0 := h0
  have lt0 : ∀ x ∈ p0, x.block < W.heap.size := by obtain ⟨m, hm⟩ := k0; exact DataW.trod_lt m _ _ _ hm
  obtain ⟨z0, w0⟩ := in_row Tryd.underlying22 Tryd.underlying21 (by kernel_rfl) h0
  obtain ⟨a1, rfl, rfl, rfl, w1⟩ := open_int Tryd.underlying5 (hval 1 5 v1 rfl rfl) h1
  have b1 : 0 ≤ a1 ∧ a1 ≤ 255 := by simpa [Lit.wf, IntKind.min, IntKind.max, IntKind.signed, IntKind.bits] using w1
  clear hA0 hval0
  refine (walk a0 len0 cap0 z0 a1 W w0 b1.1 b1.2).mono fun e W' ⟨he, bel⟩ => ?_
  subst he
  exact ⟨_, rfl, _, _, _, [], _, [], hW', trodAll_mk1 (shut_bool Tryd.underlying4 _), (trodAll_cons_mk (Below.trod laidOut (by kernel_rfl) (of_decide_eq_true (by kernel_rfl)) k0 bel lt0) (trodAll_cons_mk (shut_int Tryd.underlying5 w1) trodAll_mk0)), rfl, bel.frame _, fun h => by cases h⟩

theorem row_holds : Rows.RulePutSaid :=
  OpenClaim.holds_of_wide 7 Tryd.f7 rfl rfl rfl rfl rfl rfl rfl ⟨rfl, rfl, rfl, rfl, rfl⟩ rfl rfl rfl rfl rfl (by kernel_rfl) Tryd.func7 (by kernel_rfl)
    (of_decide_eq_true (by kernel_rfl)) (by unfold Func.isWrapper; first | (rw [if_pos (by decide +kernel)]; kernel_rfl) | (rw [if_neg (by decide +kernel)]; exact ⟨rfl, rfl⟩))
    (fun os started H enc _ => lifted os started H enc)

theorem proved : Rows.RulePutCardSaid :=
  Claim7.holds_tied_plain_at .later [] [.data, .data, .data, .data, .sentinel, .sentinel, .pinned] true (true, "11b533845e9e544cec4b62e8985955972a5f82d67a6ca1eb3e2cab17f2da9285") true
    row_holds (fun _ h => by cases h) (by kernel_rfl) (fun _ h => by cases h) rulePut_row_tie rfl ⟨rfl, rfl⟩ (by kernel_rfl) rfl
    (fun f fn hf hfn => by
      obtain rfl : f = 7 := Option.some.inj ((show Tryd.prog.funcNamed "fascia/fascialaw09.RulePut" = some 7 by kernel_rfl).symm.trans hf) |>.symm
      obtain rfl : fn = Tryd.f7 := (Option.some.inj (Tryd.func7.symm.trans hfn)).symm
      exact ⟨by kernel_rfl, fun j t ht => by
        rw [Tryd.params7] at ht
        have hm : t ∈ [22, 5] := by simpa using Array.mem_of_getElem? ht
        have hall : ([22, 5].all fun u => !Tryd.prog.wantsStandIn u) = true := by kernel_rfl
        exact (show Tryd.prog.wantsStandIn t = false by simpa using List.all_eq_true.1 hall t hm)⟩)
    (by kernel_rfl)
end Go.Proofs.YtnmijmhgmcapcaaDoor.rulePut
