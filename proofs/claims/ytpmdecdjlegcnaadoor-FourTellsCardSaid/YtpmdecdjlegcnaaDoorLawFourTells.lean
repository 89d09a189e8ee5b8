/-
  FourTells: whatever the text (up to the length that the law itself names) and the address, what four says, shows and ends in is what the document's own answer is: the law returns true.
  Conditions: those of the card (the variables that the row lists are laid as the program's text lays them).
-/
import Derived.Test.YtpmdecdjlegcnaaDoorFourI
import Derived.Test.YtpmdecdjlegcnaaDoorFourRD
import Derived.Test.YtpmdecdjlegcnaaDoorFourRE
import Derived.Test.YtpmdecdjlegcnaaDoorFrame
import Derived.Test.YtpmdecdjlegcnaaDoorTie
import Derived.Test.YtpmdecdjlegcnaaDoorCards
import Derived.Test.YtpmdecdjlegcnaaDoorFourP
import Derived.ProofKit
import Derived.Lay
import Derived.Stop.Joined
import Derived.SevenTiedAt
namespace Go.Proofs.YtpmdecdjlegcnaaDoor.fourTells
open Go.ChangeShapes Go.WideShapes Go.ChangeAt Go.RowKit Fou
open Go.ChangeMaps (open_string shut_string)

theorem num_form {o : Option Nat} {m : Nat} {q : Bool} (hm : o.getD 0 = m) (hq : o.isSome = q) {w : World} {e : Ending} {w' : World} (h : NumR o w e w') : e = .returned (.tuple #[.int .u64 (m : Int), .bool q]) ∧ Below w.heap.size w w' := by
  subst hm hq
  cases o <;> exact h
theorem par_form {o : Option Nat} {m : Nat} {n : Int} (hm : o.getD 0 = m) (hn : (if o.isSome then (0 : Int) else 30) = n) {w : World} {e : Ending} {w' : World} (h : Parsed o w e w') : e = .returned (.tuple #[.int .u32 (m : Int), .int .i64 n]) ∧ Below w.heap.size w w' := by
  subst hm hn
  cases o <;> exact h
set_option maxRecDepth 100000 in
set_option maxHeartbeats 4000000 in
theorem walk (s : ByteArray) (a1 : Int) (w : World) (hs : s.size ≤ maxLen) (h1 : 0 ≤ a1) (h1' : a1 ≤ 4294967295) (hp : PowIs w) :
    Calls Tryd.prog 3 #[.string s, .int .u32 a1] w (fun e w' => e = .returned (.bool true) ∧ Below w.heap.size w w') := by
  unfold maxLen at hs
  obtain ⟨x, rfl⟩ := Int.eq_ofNat_of_zero_le h1
  have hx : x < 4294967296 := by omega
  have HX := Lib.hid hx
  have HP := Lib.hid hp
  clear hp hx h1 h1'
  by_cases hbig : 200 < s.size
  · go_enter Tryd.func3, Tryd.ntmps3
    go_wp2_with fail
    refine (awake_any _ HP.out).mono ?_
    rintro e w1 ⟨rfl, hb1⟩
    go_wp2_with fail
    go_ret
    exact ⟨rfl, hb1⟩
  have hs2 : s.size ≤ 200 := by omega
  clear hs hbig
  obtain ⟨m, hm⟩ : ∃ m, (num (dl s)).getD 0 = m := ⟨_, rfl⟩
  obtain ⟨q, hq⟩ : ∃ q, (num (dl s)).isSome = q := ⟨_, rfl⟩
  obtain ⟨p, hpp⟩ : ∃ p, (ans (dl s)).getD 0 = p := ⟨_, rfl⟩
  obtain ⟨n, hn⟩ : ∃ n, (if (ans (dl s)).isSome then (0 : Int) else 30) = n := ⟨_, rfl⟩
  obtain ⟨E, hE⟩ : ∃ E, ends (dl s) = E := ⟨_, rfl⟩
  obtain ⟨t, ht⟩ : ∃ t, bs (shw x) = t := ⟨_, rfl⟩
  have H1 := Lib.hid (fun w => (Number_any s w (by omega)).mono fun _ _ h => num_form hm hq h)
  have H2 := Lib.hid (fun w => (refNumber_any s w (by omega)).mono fun _ _ h => num_form hm hq h)
  have H3 := Lib.hid (fun w => (Parse_any s (by omega) w).mono fun _ _ h => par_form hpp hn h)
  have H4 := Lib.hid (fun w => (refParse_any s w (by omega)).mono fun _ _ h => par_form hpp hn h)
  have H5 := Lib.hid (fun w => Ends_is s E (by omega) w hE)
  have H6 := Lib.hid (fun w => show Calls Tryd.prog 14 #[.string s] w (Says E w) from hE ▸ refEnds_any s w (by omega))
  have H7 := Lib.hid (fun w hp => show Calls Tryd.prog 15 #[.int .u32 (x : Int)] w (fun e w' => e = .returned (.string t) ∧ Below w.heap.size w w') from ht ▸ Show_any x HX.out w hp)
  have H8 := Lib.hid (fun w => show Calls Tryd.prog 16 #[.int .u32 (x : Int)] w (fun e w' => e = .returned (.string t) ∧ Below w.heap.size w w') from ht ▸ refShow_any x HX.out w)
  clear hm hq hpp hn hE ht
  go_enter Tryd.func3, Tryd.ntmps3
  go_wp2_with fail
  refine (H1.out _).mono ?_
  rintro e w1 ⟨rfl, hb1⟩
  go_wp2_with fail
  refine (H2.out _).mono ?_
  rintro e w2 ⟨rfl, hb2⟩
  have hB2 := upB hb1 hb2
  go_wp2_with fail
  refine (H3.out _).mono ?_
  rintro e w3 ⟨rfl, hb3⟩
  have hB3 := upB hB2 hb3
  go_wp2_with fail
  refine (H4.out _).mono ?_
  rintro e w4 ⟨rfl, hb4⟩
  have hB4 := upB hB3 hb4
  go_wp2_with fail
  refine (H5.out _).mono ?_
  rintro e w5 ⟨rfl, hb5⟩
  have hB5 := upB hB4 hb5
  go_wp2_with fail
  refine (H6.out _).mono ?_
  rintro e w6 ⟨rfl, hb6⟩
  have hB6 := upB hB5 hb6
  go_wp2_with fail
  refine (H7.out _ (HP.out.go hB6)).mono ?_
  rintro e w7 ⟨rfl, hb7⟩
  have hB7 := upB hB6 hb7
  go_wp2_with fail
  refine (H8.out _).mono ?_
  rintro e w8 ⟨rfl, hb8⟩
  have hB8 := upB hB7 hb8
  go_wp2_with fail
  refine (awake_any _ (HP.out.go hB8)).mono ?_
  rintro e w9 ⟨rfl, hb9⟩
  go_wp2_with fail
  go_ret
  exact ⟨rfl, upB hB8 hb9⟩

/-! From the walk to the given statement. -/
set_option linter.unusedVariables false
theorem own : ownKnob Tryd.prog.godebug = none := by kernel_rfl
theorem laidOut : laidOutB Tryd.prog = true := by kernel_rfl
set_option maxRecDepth 100000 in
theorem lifted (os : Os) (started : os.Started) (H : Type) (enc : TypeId × Value → H) :
    ReturnsInHanded {} Tryd.checked os 3 .any (fun w args => (Rows.fourTellsSpec.pre enc Tryd.prog Tryd.f3 [] false w args ∧ laidMetH Tryd.prog Rows.fourTellsRow.laid w) ∧ sizedMet enc Tryd.prog Tryd.f3 (OpenSpec.ofChange Rows.fourTellsSpec) false w args)
      (Rows.fourTellsSpec.post enc Tryd.prog Tryd.f3 false true false false) := by
  refine returnsInHanded_of_change_and (C := Tryd.checked) (X := fun w _ => laidMetH Tryd.prog Rows.fourTellsRow.laid w) (fun _ _ _ hh h => h.of_heap hh) own started (by kernel_rfl) Tryd.func3
    (ChangeSpec.witness_shaped (enc := enc) (C := Tryd.checked) (os := os) (X := fun w _ => laidMetH Tryd.prog Rows.fourTellsRow.laid w) false (World.laidAll Tryd.prog os Rows.fourTellsRow.laid) #[.string .empty, .int .u32 0] 8 (World.laidAll_os _ _ _)
      (World.shaped_of_ZipB (by kernel_rfl) (by kernel_rfl)) (by kernel_rfl) (by kernel_rfl) (by kernel_rfl)
      (by rw [MakeChecks.laidMetH_plain _ _ _ (by kernel_rfl)]; exact laidMet_laidAll _ (by kernel_rfl) (by kernel_rfl))) ?_
  intro W base args ds gs before hval0 hW _ _ hL _
  have hval : ∀ (j : Nat) t v, Tryd.f3.params[j]? = some t → args[j]? = some v → Value.okWide Tryd.prog W .any base t v := hval0
  have hW' := hW
  obtain ⟨p, q, hA0, hV, rfl, _, _⟩ := hW
  have hA : DataW.TrodAll enc Tryd.prog W 0 (fun _ => true) true Tryd.f3.params.toList args.toList ds p := hA0
  rw [Tryd.params3] at hA hval
  obtain ⟨v0, vs0, d0, ds0, p0, q0, hargs, rfl, rfl, h0, r0⟩ := trodAll_cons hA
  obtain ⟨v1, vs1, d1, ds1, p1, q1, rfl, rfl, rfl, h1, r1⟩ := trodAll_cons r0
  obtain ⟨rfl, rfl, rfl⟩ := trodAll_nil r1
  obtain rfl : args = #[v0, v1] := by cases args; simp_all
  obtain ⟨rfl, rfl⟩ := trodVars_none hV
  obtain ⟨a0, rfl, rfl, rfl, w0⟩ := open_string Tryd.underlying9 (hval 0 9 v0 rfl rfl) h0
  obtain ⟨a1, rfl, rfl, rfl, w1⟩ := open_int Tryd.underlying22 (hval 1 22 v1 rfl rfl) h1
  have b1 : 0 ≤ a1 ∧ a1 ≤ 4294967295 := by simpa [Lit.wf, IntKind.min, IntKind.max, IntKind.signed, IntKind.bits] using w1
  clear hA0 hval0
  rw [MakeChecks.laidMetH_plain _ _ _ (by kernel_rfl)] at hL
  have hPow : PowIs W := powIs_of_reads (Lib.laidMet.reads hL (.tail _ (.tail _ (.head _))))
  refine (walk a0 a1 W w0 b1.1 b1.2 hPow).mono fun e W' ⟨he, bel⟩ => ?_
  subst he
  exact ⟨_, rfl, _, _, _, [], _, [], hW', trodAll_mk1 (shut_bool Tryd.underlying4 _), (trodAll_cons_mk (shut_string Tryd.underlying9 w0) (trodAll_cons_mk (shut_int Tryd.underlying22 w1) trodAll_mk0)), rfl, bel.frame _, fun h => by cases h⟩

theorem row_holds : Rows.FourTellsSaid :=
  OpenClaim.holds_of_wide 3 Tryd.f3 rfl rfl rfl rfl rfl rfl rfl ⟨rfl, rfl, rfl, rfl, rfl⟩ rfl rfl rfl rfl rfl (by kernel_rfl) Tryd.func3 (by kernel_rfl)
    (of_decide_eq_true (by kernel_rfl)) (by unfold Func.isWrapper; first | (rw [if_pos (by decide +kernel)]; kernel_rfl) | (rw [if_neg (by decide +kernel)]; exact ⟨rfl, rfl⟩))
    (fun os started H enc _ => lifted os started H enc)

theorem proved : Rows.FourTellsCardSaid :=
  Claim7.holds_tied_plain_at .later [] [.data, .data, .data] true (true, "8c916d87dac566d43f12e0c8e58974611998e2cc655645d3f4376929a58bf9d1") false
    row_holds (fun _ h => by cases h) (by kernel_rfl) (fun _ h => by cases h) fourTells_row_tie rfl ⟨rfl, rfl⟩ (by kernel_rfl) rfl
    (fun f fn hf hfn => by
      obtain rfl : f = 3 := Option.some.inj ((show Tryd.prog.funcNamed "fascia/fascialaw12.FourTells" = some 3 by kernel_rfl).symm.trans hf) |>.symm
      obtain rfl : fn = Tryd.f3 := (Option.some.inj (Tryd.func3.symm.trans hfn)).symm
      exact ⟨by kernel_rfl, fun j t ht => by
        rw [Tryd.params3] at ht
        have hm : t ∈ [9, 22] := by simpa using Array.mem_of_getElem? ht
        have hall : ([9, 22].all fun u => !Tryd.prog.wantsStandIn u) = true := by kernel_rfl
        exact (show Tryd.prog.wantsStandIn t = false by simpa using List.all_eq_true.1 hall t hm)⟩)
    (by kernel_rfl)
end Go.Proofs.YtpmdecdjlegcnaaDoor.fourTells
