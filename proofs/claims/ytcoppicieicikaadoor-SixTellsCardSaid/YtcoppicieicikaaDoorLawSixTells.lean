/-
  SixTells: whatever the text and the address, the address that a text says, its run of noughts, and how it is shown, are those of the document's own answer, or its error: the law returns true.
  Conditions: those of the card (the variables that the row lists are laid as the program's text lays them).
-/
import Derived.Test.YtcoppicieicikaaDoorSixRH
import Derived.Test.YtcoppicieicikaaDoorSixRE
import Derived.Deep.RegionHeld3
import Derived.Test.YtcoppicieicikaaDoorFrame
import Derived.Test.YtcoppicieicikaaDoorTie
import Derived.Test.YtcoppicieicikaaDoorCards
import Derived.Test.YtcoppicieicikaaDoorSixZ
import Derived.ProofKit
import Derived.Lay
import Derived.Stop.Joined
import Derived.SevenTiedAt
namespace Go.Proofs.YtcoppicieicikaaDoor.sixTells
open Go.ChangeShapes Go.WideShapes Go.ChangeAt Go.RowKit Sx
open Go.ChangeMaps (open_string shut_string)

def ansY (o : Option (List Nat)) : List Nat := match o with | some y => y | none => z8
def ansE (o : Option (List Nat)) : Int := match o with | some _ => 0 | none => 31
theorem parR_tells {o : Option (List Nat)} {w w' : World} {e : Ending} (h : ParR o w e w') : e = .returned (.tuple #[av (ansY o), .int .i64 (ansE o)]) ∧ Below w.heap.size w w' := by
  cases o with
  | none => exact h
  | some y => exact h
set_option maxRecDepth 100000 in
set_option maxHeartbeats 8000000 in
theorem walk (s : ByteArray) (x : List Nat) (w : World) (_ : s.size ≤ maxLen) (hx8 : x.length = 8) (hx16 : ∀ m ∈ x, m < 65536) (hE : Env w) :
    Calls Tryd.prog 3 #[.string s, av x] w (fun e w' => e = .returned (.bool true) ∧ Below w.heap.size w w') := by
  have hxa := Hx.new w x
  have hB0 := upA w (.cells (cu x).toArray 23)
  obtain ⟨w1, hw1⟩ : ∃ w1, w.alloc (.cells (cu x).toArray 23) = w1 := ⟨_, rfl⟩
  rw [hw1] at hxa hB0
  have HE := Lib.hid (fun W (hB : Below w1.heap.size w1 W) => (hE.go hB0).go hB)
  have HAW := Lib.hid (fun W h => awake_any W h)
  have HB0 := Lib.hid hB0
  by_cases hs : s.size ≤ 100
  · have hsz : ¬ (100 : Int) < (s.size : Int) := by omega
    obtain ⟨k, n, hr⟩ := IsRun.exists x
    have HSx := Lib.hid (fun W h => Show_any x hx8 hx16 k n hr W h)
    have HSr := Lib.hid (fun W => refShow_any x hx8 hx16 k n hr W)
    have HRx := Lib.hid (fun W => Run_any x hx8 k n hr W)
    have HRr := Lib.hid (fun W => refRun_any x hx8 k n hr W)
    have HPa := Lib.hid (fun W h => (Parse_any s (by omega) W h).mono fun _ _ h => parR_tells h)
    have HPb := Lib.hid (fun W => (refParse_any s hs W).mono fun _ _ h => parR_tells h)
    obtain ⟨o, ho⟩ : ∃ o, prs (dl s) = o := ⟨_, rfl⟩
    have hY8 : (ansY o).length = 8 := by
      cases o with
      | none => rfl
      | some y => exact (prs_some ho).1
    rw [ho] at HPa HPb
    obtain ⟨E, hE'⟩ : ∃ E, ansE o = E := ⟨_, rfl⟩
    obtain ⟨Y, hY⟩ : ∃ Y, ansY o = Y := ⟨_, rfl⟩
    rw [hY] at hY8 HPa HPb
    rw [hE'] at HPa HPb
    unfold Texts at HSx HSr
    unfold Tells at HRx HRr
    obtain ⟨sS, hsS⟩ : ∃ t, bs (shw x k n) = t := ⟨_, rfl⟩
    rw [hsS] at HSx HSr
    have hst : (sS.toList == sS.toList) = true := beq_self_eq_true _
    obtain ⟨x0, x1, x2, x3, x4, x5, x6, x7, rfl⟩ := eight hx8
    obtain ⟨y0, y1, y2, y3, y4, y5, y6, y7, rfl⟩ := eight hY8
    have heq : ∀ W, (Op.equalIn 10000 23 (.agg #[.int .u16 (y0 : Int), .int .u16 (y1 : Int), .int .u16 (y2 : Int), .int .u16 (y3 : Int), .int .u16 (y4 : Int), .int .u16 (y5 : Int), .int .u16 (y6 : Int), .int .u16 (y7 : Int)]) (.agg #[.int .u16 (y0 : Int), .int .u16 (y1 : Int), .int .u16 (y2 : Int), .int .u16 (y3 : Int), .int .u16 (y4 : Int), .int .u16 (y5 : Int), .int .u16 (y6 : Int), .int .u16 (y7 : Int)])).run Tryd.prog W = .ok true W := fun W => by
      have := equal8 [y0, y1, y2, y3, y4, y5, y6, y7] [y0, y1, y2, y3, y4, y5, y6, y7] rfl rfl W
      rw [decide_eq_true rfl] at this
      exact this
    have HXA := Lib.hid hxa
    clear hx8 hx16 hE hr ho hE' hY hsS hY8 hs hB0
    go_enter Tryd.func3, Tryd.ntmps3
    go_upto_region 1 with fail
    clear hw1
    go_upto_region 4 with (first
      | (go_at_call 9; refine (HPa.out _ (HE.out _ (Below.refl _ _))).mono ?_; rintro e w2 ⟨rfl, hB2⟩)
      | (refine store8x rfl _ _ rfl _ z8 [y0, y1, y2, y3, y4, y5, y6, y7] rfl rfl (Hx.new w2 z8) rfl rfl ?_; intro w3 hX5 hB3)
      | fail)
    have hB3' : Below w1.heap.size w1 w3 := upB hB2 ((upA w2 _).trans hB3)
    have HX5 := Lib.hid hX5
    have HB3 := Lib.hid hB3'
    have HS2 := Lib.hid hB2.size
    clear hB2 hB3 hB3' hX5
    generalize w2.heap.size = B5 at HX5 HS2 ⊢
    go_upto_region 5 with (first
      | (go_at_call 10; refine (HPb.out _).mono ?_; rintro e w4 ⟨rfl, hB4⟩)
      | (refine store8x rfl _ _ rfl _ z8 [y0, y1, y2, y3, y4, y5, y6, y7] rfl rfl (Hx.new w4 z8) rfl rfl ?_; intro w5 hX7 hB5)
      | fail)
    have HX5b := Lib.hid ((HX5.out.go hB4).gob ((HX5.out.go hB4).lt) ((upA w4 _).trans hB5))
    have HB5 := Lib.hid (upB HB3.out (upB hB4 ((upA w4 _).trans hB5)))
    have HX7 := Lib.hid hX7
    clear hB4 hB5 hX7 HX5
    generalize w4.heap.size = B7 at HX7 ⊢
    have hx1 := HXA.out.go HB5.out
    go_upto_region 6 with (first | (refine load8 _ rfl _ rfl _ hx1 rfl rfl ?_) | (go_at_call 11; refine (HRx.out _).mono ?_; rintro e w6 ⟨rfl, hB6⟩) | fail)
    have hx2 := hx1.go hB6
    go_upto_region 7 with (first | (refine load8 _ rfl _ rfl _ hx2 rfl rfl ?_) | (go_at_call 12; refine (HRr.out _).mono ?_; rintro e w7 ⟨rfl, hB7⟩) | fail)
    have HB7 := Lib.hid (upB HB5.out (upB hB6 hB7))
    have HXA7 := Lib.hid (hx2.go hB7)
    have HX57 := Lib.hid ((HX5b.out.go hB6).go hB7)
    have HX77 := Lib.hid ((HX7.out.go hB6).go hB7)
    have HSS : Hid (∀ w', Below w7.heap.size w7 w' → (w'.cell? ⟨w.heap.size, 0, none⟩ = some (.int .u16 (x0 : Int)) ∧ w'.cell? ⟨w.heap.size, 1, none⟩ = some (.int .u16 (x1 : Int)) ∧ w'.cell? ⟨w.heap.size, 2, none⟩ = some (.int .u16 (x2 : Int)) ∧ w'.cell? ⟨w.heap.size, 3, none⟩ = some (.int .u16 (x3 : Int)) ∧ w'.cell? ⟨w.heap.size, 4, none⟩ = some (.int .u16 (x4 : Int)) ∧ w'.cell? ⟨w.heap.size, 5, none⟩ = some (.int .u16 (x5 : Int)) ∧ w'.cell? ⟨w.heap.size, 6, none⟩ = some (.int .u16 (x6 : Int)) ∧ w'.cell? ⟨w.heap.size, 7, none⟩ = some (.int .u16 (x7 : Int)) ∧ w'.cell? ⟨B5, 0, none⟩ = some (.int .u16 (y0 : Int)) ∧ w'.cell? ⟨B5, 1, none⟩ = some (.int .u16 (y1 : Int)) ∧ w'.cell? ⟨B5, 2, none⟩ = some (.int .u16 (y2 : Int)) ∧ w'.cell? ⟨B5, 3, none⟩ = some (.int .u16 (y3 : Int)) ∧ w'.cell? ⟨B5, 4, none⟩ = some (.int .u16 (y4 : Int)) ∧ w'.cell? ⟨B5, 5, none⟩ = some (.int .u16 (y5 : Int)) ∧ w'.cell? ⟨B5, 6, none⟩ = some (.int .u16 (y6 : Int)) ∧ w'.cell? ⟨B5, 7, none⟩ = some (.int .u16 (y7 : Int)) ∧ w'.cell? ⟨B7, 0, none⟩ = some (.int .u16 (y0 : Int)) ∧ w'.cell? ⟨B7, 1, none⟩ = some (.int .u16 (y1 : Int)) ∧ w'.cell? ⟨B7, 2, none⟩ = some (.int .u16 (y2 : Int)) ∧ w'.cell? ⟨B7, 3, none⟩ = some (.int .u16 (y3 : Int)) ∧ w'.cell? ⟨B7, 4, none⟩ = some (.int .u16 (y4 : Int)) ∧ w'.cell? ⟨B7, 5, none⟩ = some (.int .u16 (y5 : Int)) ∧ w'.cell? ⟨B7, 6, none⟩ = some (.int .u16 (y6 : Int)) ∧ w'.cell? ⟨B7, 7, none⟩ = some (.int .u16 (y7 : Int)))) := Lib.hid (fun w' hB => by
      obtain ⟨a0, a1, a2, a3, a4, a5, a6, a7⟩ := (HXA7.out.go hB).eight
      obtain ⟨b0, b1, b2, b3, b4, b5, b6, b7⟩ := (HX57.out.go hB).eight
      obtain ⟨c0, c1, c2, c3, c4, c5, c6, c7⟩ := (HX77.out.go hB).eight
      exact ⟨a0, a1, a2, a3, a4, a5, a6, a7, b0, b1, b2, b3, b4, b5, b6, b7, c0, c1, c2, c3, c4, c5, c6, c7⟩)
    have HSx' : Hid (∀ W, Env W → Calls Tryd.prog 13 #[.agg #[.int .u16 (x0 : Int), .int .u16 (x1 : Int), .int .u16 (x2 : Int), .int .u16 (x3 : Int), .int .u16 (x4 : Int), .int .u16 (x5 : Int), .int .u16 (x6 : Int), .int .u16 (x7 : Int)]] W (fun e w' => e = .returned (.string sS) ∧ Below W.heap.size W w')) := HSx
    have HSr' : Hid (∀ W, Calls Tryd.prog 14 #[.agg #[.int .u16 (x0 : Int), .int .u16 (x1 : Int), .int .u16 (x2 : Int), .int .u16 (x3 : Int), .int .u16 (x4 : Int), .int .u16 (x5 : Int), .int .u16 (x6 : Int), .int .u16 (x7 : Int)]] W (fun e w' => e = .returned (.string sS) ∧ Below W.heap.size W w')) := HSr
    clear hx1 hx2 hB6 hB7 HXA HX5b HX7 HXA7 HX57 HX77 HSx HSr HRx HRr HPa HPb
    have hd2 : Below w7.heap.size w7 w7.drew := (Below.refl _ _).drew
    go_region_held3 (fun w' => w'.cell? ⟨w.heap.size, 0, none⟩ = some (.int .u16 (x0 : Int)) ∧ w'.cell? ⟨w.heap.size, 1, none⟩ = some (.int .u16 (x1 : Int)) ∧ w'.cell? ⟨w.heap.size, 2, none⟩ = some (.int .u16 (x2 : Int)) ∧ w'.cell? ⟨w.heap.size, 3, none⟩ = some (.int .u16 (x3 : Int)) ∧ w'.cell? ⟨w.heap.size, 4, none⟩ = some (.int .u16 (x4 : Int)) ∧ w'.cell? ⟨w.heap.size, 5, none⟩ = some (.int .u16 (x5 : Int)) ∧ w'.cell? ⟨w.heap.size, 6, none⟩ = some (.int .u16 (x6 : Int)) ∧ w'.cell? ⟨w.heap.size, 7, none⟩ = some (.int .u16 (x7 : Int)) ∧ w'.cell? ⟨B5, 0, none⟩ = some (.int .u16 (y0 : Int)) ∧ w'.cell? ⟨B5, 1, none⟩ = some (.int .u16 (y1 : Int)) ∧ w'.cell? ⟨B5, 2, none⟩ = some (.int .u16 (y2 : Int)) ∧ w'.cell? ⟨B5, 3, none⟩ = some (.int .u16 (y3 : Int)) ∧ w'.cell? ⟨B5, 4, none⟩ = some (.int .u16 (y4 : Int)) ∧ w'.cell? ⟨B5, 5, none⟩ = some (.int .u16 (y5 : Int)) ∧ w'.cell? ⟨B5, 6, none⟩ = some (.int .u16 (y6 : Int)) ∧ w'.cell? ⟨B5, 7, none⟩ = some (.int .u16 (y7 : Int)) ∧ w'.cell? ⟨B7, 0, none⟩ = some (.int .u16 (y0 : Int)) ∧ w'.cell? ⟨B7, 1, none⟩ = some (.int .u16 (y1 : Int)) ∧ w'.cell? ⟨B7, 2, none⟩ = some (.int .u16 (y2 : Int)) ∧ w'.cell? ⟨B7, 3, none⟩ = some (.int .u16 (y3 : Int)) ∧ w'.cell? ⟨B7, 4, none⟩ = some (.int .u16 (y4 : Int)) ∧ w'.cell? ⟨B7, 5, none⟩ = some (.int .u16 (y5 : Int)) ∧ w'.cell? ⟨B7, 6, none⟩ = some (.int .u16 (y6 : Int)) ∧ w'.cell? ⟨B7, 7, none⟩ = some (.int .u16 (y7 : Int))) (exact HSS.out _ (by first | assumption | exact Below.drew (by assumption))) (first
      | (go_at_call 13; (with_reducible refine (HSx'.out _ (HE.out _ (HB7.out.trans (Below.mono (by assumption) HB7.out.size)))).mono ?_); rintro e' w8 ⟨rfl, hb8⟩; have hB8 : Below w7.heap.size w7 w8 := hd2.trans (hb8.mono hd2.size))
      | (go_at_call 14; (with_reducible refine (HSr'.out _).mono ?_); rintro e' w9 ⟨rfl, hb9⟩; have hB9 : Below w7.heap.size w7 w9 := hB8.trans (hb9.mono hB8.size))
      | (go_at_call 8; (with_reducible refine (HAW.out _ (HE.out _ (HB7.out.trans (Below.mono (by assumption) HB7.out.size)))).mono ?_); rintro e' wA ⟨rfl, hbA⟩; have hBA : Below w7.heap.size w7 wA := hB9.trans (hbA.mono hB9.size))
      | fail)
    all_goals
      go_wp2_with fail
      go_ret
      exact ⟨rfl, HB0.out.trans ((HB7.out.trans (hBA.mono HB7.out.size)).mono HB0.out.size)⟩
  · have hsz : (100 : Int) < (s.size : Int) := by omega
    clear hs hx8 hx16 hE hxa hB0
    go_enter Tryd.func3, Tryd.ntmps3
    go_upto_region 1 with fail
    clear hw1
    go_wp2_with (first | (go_at_call 8; refine (HAW.out _ (HE.out _ (Below.refl _ _))).mono ?_; rintro e w2 ⟨rfl, hB2⟩) | fail)
    go_ret
    exact ⟨rfl, upB HB0.out hB2⟩

/-! From the walk to the given statement. -/
set_option linter.unusedVariables false
theorem own : ownKnob Tryd.prog.godebug = none := by kernel_rfl
theorem laidOut : laidOutB Tryd.prog = true := by kernel_rfl
set_option maxRecDepth 100000 in
theorem lifted (os : Os) (started : os.Started) (H : Type) (enc : TypeId × Value → H) :
    ReturnsInHanded {} Tryd.checked os 3 .any (fun w args => (Rows.sixTellsSpec.pre enc Tryd.prog Tryd.f3 [] false w args ∧ laidMetH Tryd.prog Rows.sixTellsRow.laid w) ∧ sizedMet enc Tryd.prog Tryd.f3 (OpenSpec.ofChange Rows.sixTellsSpec) false w args)
      (Rows.sixTellsSpec.post enc Tryd.prog Tryd.f3 false true false false) := by
  refine returnsIn_and_shaped (C := Tryd.checked) (X := fun w _ => laidMetH Tryd.prog Rows.sixTellsRow.laid w) (fun _ _ _ hh h => h.of_heap hh) own started (by kernel_rfl) Tryd.func3
    (ChangeSpec.witness_shaped (enc := enc) (C := Tryd.checked) (os := os) (X := fun w _ => laidMetH Tryd.prog Rows.sixTellsRow.laid w) false (World.laidAll Tryd.prog os Rows.sixTellsRow.laid) #[.string .empty, .agg #[.int .u16 0, .int .u16 0, .int .u16 0, .int .u16 0, .int .u16 0, .int .u16 0, .int .u16 0, .int .u16 0]] 8 (World.laidAll_os _ _ _)
      (World.shaped_of_ZipB (by kernel_rfl) (by kernel_rfl)) (by kernel_rfl) (by kernel_rfl) (by kernel_rfl)
      (by rw [MakeChecks.laidMetH_plain _ _ _ (by kernel_rfl)]; exact laidMet_laidAll _ (by kernel_rfl) (by kernel_rfl))) ?_
  intro W base args ds gs before hval0 hW _ _ hL hsh _
  have hval : ∀ (j : Nat) t v, Tryd.f3.params[j]? = some t → args[j]? = some v → Value.okWide Tryd.prog W .any base t v := hval0
  have hW' := hW
  obtain ⟨p, q, hA0, hV, rfl, _, _⟩ := hW
  have hA : DataW.TrodAll enc Tryd.prog W 0 (fun _ => true) true Tryd.f3.params.toList args.toList ds p := hA0
  rw [Tryd.params3] at hA hval
  obtain ⟨v0, vs0, d0, ds0, p0, q0, hargs, rfl, rfl, h0, r0⟩ := trodAll_cons hA
  obtain ⟨v1, vs1, d1, ds1, p1, q1, rfl, rfl, rfl, h1, r1⟩ := trodAll_cons r0
  obtain ⟨rfl, rfl, rfl⟩ := trodAll_nil r1
  obtain rfl : args = #[v0, v1] := by cases args; simp_all
  obtain ⟨rfl, rfl⟩ := trodVars_none hV
  obtain ⟨a0, rfl, rfl, rfl, w0⟩ := open_string Tryd.underlying9 (hval 0 9 v0 rfl rfl) h0
  obtain ⟨xs1, rfl, n1⟩ := WideMaps.okWide_arr arr8_key (hval 1 23 v1 rfl rfl)
  have k1 := h1
  obtain ⟨rfl, x1, l1, m1, rfl⟩ := arr8_open n1 h1
  have lt1 : ∀ x ∈ ([] : List MemPlace), x.block < W.heap.size := fun x hx => by cases hx
  clear hA0 hval0
  rw [MakeChecks.laidMetH_plain _ _ _ (by kernel_rfl)] at hL
  have hEnv : Env W := env_of hsh (Lib.laidMet.reads hL (.tail _ (.head _))) (Lib.laidMet.reads hL (.tail _ (.tail _ (.head _)))) (Lib.laidMet.reads hL (.tail _ (.tail _ (.tail _ (.tail _ (.head _)))))) (Lib.laidMet.reads hL (.tail _ (.tail _ (.tail _ (.tail _ (.tail _ (.head _)))))))
  refine (walk a0 x1 W w0 l1 m1 hEnv).mono fun e W' ⟨he, bel⟩ => ?_
  subst he
  exact ⟨_, rfl, _, _, _, [], _, [], hW', trodAll_mk1 (shut_bool Tryd.underlying4 _), (trodAll_cons_mk (shut_string Tryd.underlying9 w0) (trodAll_cons_mk (Below.trod laidOut (by kernel_rfl) (of_decide_eq_true (by kernel_rfl)) k1 bel lt1) trodAll_mk0)), rfl, bel.frame _, fun h => by cases h⟩

theorem row_holds : Rows.SixTellsSaid :=
  OpenClaim.holds_of_wide 3 Tryd.f3 rfl rfl rfl rfl rfl rfl rfl ⟨rfl, rfl, rfl, rfl, rfl⟩ rfl rfl rfl rfl rfl (by kernel_rfl) Tryd.func3 (by kernel_rfl)
    (of_decide_eq_true (by kernel_rfl)) (by unfold Func.isWrapper; first | (rw [if_pos (by decide +kernel)]; kernel_rfl) | (rw [if_neg (by decide +kernel)]; exact ⟨rfl, rfl⟩))
    (fun os started H enc _ => lifted os started H enc)

theorem proved : Rows.SixTellsCardSaid :=
  Claim7.holds_tied_plain_at .later [] [.data, .data, .data, .data, .sentinel, .sentinel, .pinned] true (true, "088f59884a7ce57d9b8a56315fa832e1f9ff9639c70780f69158d45bb9a90f63") true
    row_holds (fun _ h => by cases h) (by kernel_rfl) (fun _ h => by cases h) sixTells_row_tie rfl ⟨rfl, rfl⟩ (by kernel_rfl) rfl
    (fun f fn hf hfn => by
      obtain rfl : f = 3 := Option.some.inj ((show Tryd.prog.funcNamed "fascia/fascialaw13.SixTells" = some 3 by kernel_rfl).symm.trans hf) |>.symm
      obtain rfl : fn = Tryd.f3 := (Option.some.inj (Tryd.func3.symm.trans hfn)).symm
      exact ⟨by kernel_rfl, fun j t ht => by
        rw [Tryd.params3] at ht
        have hm : t ∈ [9, 23] := by simpa using Array.mem_of_getElem? ht
        have hall : ([9, 23].all fun u => !Tryd.prog.wantsStandIn u) = true := by kernel_rfl
        exact (show Tryd.prog.wantsStandIn t = false by simpa using List.all_eq_true.1 hall t hm)⟩)
    (by kernel_rfl)
end Go.Proofs.YtcoppicieicikaaDoor.sixTells
