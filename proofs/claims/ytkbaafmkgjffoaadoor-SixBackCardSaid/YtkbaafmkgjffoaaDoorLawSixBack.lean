/-
  SixBack: whatever the two addresses, what is shown is read as that address, in upper case, too, and unlike addresses are shown unlike: the law returns true.
  Conditions: those of the card (the variables that the row lists are laid as the program's text lays them).
-/
import Derived.Test.YtkbaafmkgjffoaaDoorSixI
import Derived.Deep.RegionHeld3
import Derived.Test.YtkbaafmkgjffoaaDoorFrame
import Derived.Test.YtkbaafmkgjffoaaDoorTie
import Derived.Test.YtkbaafmkgjffoaaDoorCards
import Derived.Test.YtkbaafmkgjffoaaDoorSixZ
import Derived.ProofKit
import Derived.Lay
import Derived.Stop.Joined
import Derived.SevenTiedAt
namespace Go.Proofs.YtkbaafmkgjffoaaDoor.sixBack
open Go.ChangeShapes Go.WideShapes Go.ChangeAt Go.RowKit Sx
open Go.ChangeMaps (open_string shut_string)

theorem shw_ascii (x : List Nat) (k n : Nat) : ∀ c ∈ shw x k n, c.toNat < 128 := by
  have hd : ∀ l : List Nat, ∀ c ∈ jn (hx l), c.toNat < 128 := by
    intro l c hc
    rcases jn_mem (hx l) c hc with h | ⟨p, hp, h⟩
    · subst h; decide
    · obtain ⟨m, _, rfl⟩ := List.mem_map.1 hp
      obtain ⟨d, hd, rfl⟩ := digs_mem (by decide) m c h
      exact (dgB_ok hd).2.2.2.1
  intro c hc
  unfold shw at hc
  split at hc
  · exact hd _ c hc
  · rcases List.mem_append.1 hc with h | h
    · exact hd _ c h
    · simp only [List.mem_cons] at h
      rcases h with rfl | rfl | h
      · decide
      · decide
      · exact hd _ c h
set_option maxRecDepth 100000 in
set_option maxHeartbeats 8000000 in
theorem walk (x y : List Nat) (w : World) (hx8 : x.length = 8) (hx16 : ∀ m ∈ x, m < 65536) (hy8 : y.length = 8) (hy16 : ∀ m ∈ y, m < 65536) (hE : Env w) :
    Calls Tryd.prog 4 #[av x, av y] w (fun e w' => e = .returned (.bool true) ∧ Below w.heap.size w w') := by
  obtain ⟨k, n, hr⟩ := IsRun.exists x
  obtain ⟨k', n', hr'⟩ := IsRun.exists y
  have hp1 := prs_shw hx8 hx16 hr
  have hp2 := prs_up hx8 hx16 hr
  have hp3 := prs_shw hy8 hy16 hr'
  obtain ⟨hl1, hl2⟩ := shw_len hx8 hx16 hr
  have hT := shw_ascii x k n
  have HSx := Lib.hid (fun W h => Show_any x hx8 hx16 k n hr W h)
  have HSy := Lib.hid (fun W h => Show_any y hy8 hy16 k' n' hr' W h)
  have hq : decide (shw y k' n' = shw x k n) = decide (x = y) := decide_eq_decide.2 ⟨fun e => Option.some.inj (by rw [← hp1, ← hp3, e]), fun e => by
    subst e
    obtain ⟨rfl, rfl⟩ := hr.same hr'
    rfl⟩
  obtain ⟨T1, hT1⟩ : ∃ T, shw x k n = T := ⟨_, rfl⟩
  obtain ⟨T2, hT2⟩ : ∃ T, shw y k' n' = T := ⟨_, rfl⟩
  rw [hT1] at hp1 hp2 hl1 hl2 hT HSx hq
  rw [hT2] at hp3 HSy hq
  have HY1 := Lib.hid (fun W h => says_yes (bs T1) x hx8 (by rw [bs_size]; omega) W h (by rw [show dl (bs T1) = T1 from bs_data _]; exact hp1))
  have HU := Lib.hid (fun W => ToUpper_any T1 (by omega) hT W)
  have HY2 := Lib.hid (fun W h => says_yes (bs (Lib.toUpperA T1)) x hx8 (by rw [bs_size, Lib.toUpperA, List.length_map]; omega) W h (by rw [show dl (bs (Lib.toUpperA T1)) = Lib.toUpperA T1 from bs_data _]; exact hp2))
  have hs12 : ((bs T2).toList == (bs T1).toList) = decide (T2 = T1) := by
    rw [str_beq]
    refine decide_eq_decide.2 ⟨fun e => ?_, fun e => by rw [e]⟩
    rw [← bs_data T2, ← bs_data T1, e]
  have heq : ∀ W, (Op.equalIn 10000 23 (av x) (av y)).run Tryd.prog W = .ok (decide (x = y)) W := fun W => equal8 x y hx8 hy8 W
  rw [hq] at hs12
  obtain ⟨q, hq2⟩ : ∃ q, decide (x = y) = q := ⟨_, rfl⟩
  rw [hq2] at hs12 heq
  have hz1 : (2 : Int) ≤ ((bs T1).size : Int) := by rw [bs_size]; omega
  have hz2 : ((bs T1).size : Int) ≤ 39 := by rw [bs_size]; omega
  unfold Texts at HSx HSy HU
  obtain ⟨s1, hs1⟩ : ∃ s, bs T1 = s := ⟨_, rfl⟩
  obtain ⟨s2, hs2⟩ : ∃ s, bs T2 = s := ⟨_, rfl⟩
  obtain ⟨s3, hs3⟩ : ∃ s, bs (Lib.toUpperA T1) = s := ⟨_, rfl⟩
  rw [hs1] at HSx HY1 HU hs12 hz1 hz2
  rw [hs2] at HSy hs12
  rw [hs3] at HU HY2
  obtain ⟨x0, x1, x2, x3, x4, x5, x6, x7, rfl⟩ := eight hx8
  obtain ⟨y0, y1, y2, y3, y4, y5, y6, y7, rfl⟩ := eight hy8
  have hxa := (Hx.new w [x0, x1, x2, x3, x4, x5, x6, x7]).go (upA _ (.cells (cu [y0, y1, y2, y3, y4, y5, y6, y7]).toArray 23))
  have hya := Hx.new (w.alloc (.cells (cu [x0, x1, x2, x3, x4, x5, x6, x7]).toArray 23)) [y0, y1, y2, y3, y4, y5, y6, y7]
  rw [World.size_alloc] at hya
  have hB0 : Below w.heap.size w ((w.alloc (.cells (cu [x0, x1, x2, x3, x4, x5, x6, x7]).toArray 23)).alloc (.cells (cu [y0, y1, y2, y3, y4, y5, y6, y7]).toArray 23)) := (upA w _).alloc (by simp) _
  obtain ⟨w1, hw1⟩ : ∃ w1, (w.alloc (.cells (cu [x0, x1, x2, x3, x4, x5, x6, x7]).toArray 23)).alloc (.cells (cu [y0, y1, y2, y3, y4, y5, y6, y7]).toArray 23) = w1 := ⟨_, rfl⟩
  rw [hw1] at hxa hya hB0
  have HE := Lib.hid (fun W (hB : Below w1.heap.size w1 W) => (hE.go hB0).go hB)
  have HB0 := Lib.hid hB0
  have HXA := Lib.hid hxa
  have HYA := Lib.hid hya
  clear hx8 hx16 hy8 hy16 hE hr hr' hp1 hp2 hp3 hl1 hl2 hT hq hq2 hB0 hT1 hT2 hs1 hs2 hs3 hxa hya
  go_enter Tryd.func4, Tryd.ntmps4
  go_upto_region 1 with fail
  clear hw1
  have hx1 := HXA.out
  go_upto_region 2 with (first | (refine load8 _ rfl _ rfl _ hx1 rfl rfl ?_) | (go_at_call 13; refine (HSx.out _ (HE.out _ (Below.refl _ _))).mono ?_; rintro e w2 ⟨rfl, hB2⟩) | fail)
  have HY1' : Hid (∀ W, Env W → Calls Tryd.prog 15 #[.string s1, .agg #[.int .u16 (x0 : Int), .int .u16 (x1 : Int), .int .u16 (x2 : Int), .int .u16 (x3 : Int), .int .u16 (x4 : Int), .int .u16 (x5 : Int), .int .u16 (x6 : Int), .int .u16 (x7 : Int)]] W (Says true W)) := HY1
  have HY2' : Hid (∀ W, Env W → Calls Tryd.prog 15 #[.string s3, .agg #[.int .u16 (x0 : Int), .int .u16 (x1 : Int), .int .u16 (x2 : Int), .int .u16 (x3 : Int), .int .u16 (x4 : Int), .int .u16 (x5 : Int), .int .u16 (x6 : Int), .int .u16 (x7 : Int)]] W (Says true W)) := HY2
  have HSy' : Hid (∀ W, Env W → Calls Tryd.prog 13 #[.agg #[.int .u16 (y0 : Int), .int .u16 (y1 : Int), .int .u16 (y2 : Int), .int .u16 (y3 : Int), .int .u16 (y4 : Int), .int .u16 (y5 : Int), .int .u16 (y6 : Int), .int .u16 (y7 : Int)]] W (fun e w' => e = .returned (.string s2) ∧ Below W.heap.size W w')) := HSy
  have heq' : ∀ W, (Op.equalIn 10000 23 (.agg #[.int .u16 (x0 : Int), .int .u16 (x1 : Int), .int .u16 (x2 : Int), .int .u16 (x3 : Int), .int .u16 (x4 : Int), .int .u16 (x5 : Int), .int .u16 (x6 : Int), .int .u16 (x7 : Int)]) (.agg #[.int .u16 (y0 : Int), .int .u16 (y1 : Int), .int .u16 (y2 : Int), .int .u16 (y3 : Int), .int .u16 (y4 : Int), .int .u16 (y5 : Int), .int .u16 (y6 : Int), .int .u16 (y7 : Int)])).run Tryd.prog W = .ok q W := heq
  have HAW := Lib.hid (fun W h => awake_any W h)
  have HSS : Hid (∀ w', Below w1.heap.size w1 w' → (w'.cell? ⟨w.heap.size, 0, none⟩ = some (.int .u16 (x0 : Int)) ∧ w'.cell? ⟨w.heap.size, 1, none⟩ = some (.int .u16 (x1 : Int)) ∧ w'.cell? ⟨w.heap.size, 2, none⟩ = some (.int .u16 (x2 : Int)) ∧ w'.cell? ⟨w.heap.size, 3, none⟩ = some (.int .u16 (x3 : Int)) ∧ w'.cell? ⟨w.heap.size, 4, none⟩ = some (.int .u16 (x4 : Int)) ∧ w'.cell? ⟨w.heap.size, 5, none⟩ = some (.int .u16 (x5 : Int)) ∧ w'.cell? ⟨w.heap.size, 6, none⟩ = some (.int .u16 (x6 : Int)) ∧ w'.cell? ⟨w.heap.size, 7, none⟩ = some (.int .u16 (x7 : Int)) ∧ w'.cell? ⟨w.heap.size + 1, 0, none⟩ = some (.int .u16 (y0 : Int)) ∧ w'.cell? ⟨w.heap.size + 1, 1, none⟩ = some (.int .u16 (y1 : Int)) ∧ w'.cell? ⟨w.heap.size + 1, 2, none⟩ = some (.int .u16 (y2 : Int)) ∧ w'.cell? ⟨w.heap.size + 1, 3, none⟩ = some (.int .u16 (y3 : Int)) ∧ w'.cell? ⟨w.heap.size + 1, 4, none⟩ = some (.int .u16 (y4 : Int)) ∧ w'.cell? ⟨w.heap.size + 1, 5, none⟩ = some (.int .u16 (y5 : Int)) ∧ w'.cell? ⟨w.heap.size + 1, 6, none⟩ = some (.int .u16 (y6 : Int)) ∧ w'.cell? ⟨w.heap.size + 1, 7, none⟩ = some (.int .u16 (y7 : Int)))) := Lib.hid (fun w' hB => by
    have hx := HXA.out.go hB
    have hy := HYA.out.go hB
    obtain ⟨a0, a1, a2, a3, a4, a5, a6, a7⟩ := hx.eight
    obtain ⟨b0, b1, b2, b3, b4, b5, b6, b7⟩ := hy.eight
    exact ⟨a0, a1, a2, a3, a4, a5, a6, a7, b0, b1, b2, b3, b4, b5, b6, b7⟩)
  clear HY1 HY2 HSy heq hx1 HXA HYA HSx
  have hd2 := hB2.drew
  go_region_held3 (fun w' => w'.cell? ⟨w.heap.size, 0, none⟩ = some (.int .u16 (x0 : Int)) ∧ w'.cell? ⟨w.heap.size, 1, none⟩ = some (.int .u16 (x1 : Int)) ∧ w'.cell? ⟨w.heap.size, 2, none⟩ = some (.int .u16 (x2 : Int)) ∧ w'.cell? ⟨w.heap.size, 3, none⟩ = some (.int .u16 (x3 : Int)) ∧ w'.cell? ⟨w.heap.size, 4, none⟩ = some (.int .u16 (x4 : Int)) ∧ w'.cell? ⟨w.heap.size, 5, none⟩ = some (.int .u16 (x5 : Int)) ∧ w'.cell? ⟨w.heap.size, 6, none⟩ = some (.int .u16 (x6 : Int)) ∧ w'.cell? ⟨w.heap.size, 7, none⟩ = some (.int .u16 (x7 : Int)) ∧ w'.cell? ⟨w.heap.size + 1, 0, none⟩ = some (.int .u16 (y0 : Int)) ∧ w'.cell? ⟨w.heap.size + 1, 1, none⟩ = some (.int .u16 (y1 : Int)) ∧ w'.cell? ⟨w.heap.size + 1, 2, none⟩ = some (.int .u16 (y2 : Int)) ∧ w'.cell? ⟨w.heap.size + 1, 3, none⟩ = some (.int .u16 (y3 : Int)) ∧ w'.cell? ⟨w.heap.size + 1, 4, none⟩ = some (.int .u16 (y4 : Int)) ∧ w'.cell? ⟨w.heap.size + 1, 5, none⟩ = some (.int .u16 (y5 : Int)) ∧ w'.cell? ⟨w.heap.size + 1, 6, none⟩ = some (.int .u16 (y6 : Int)) ∧ w'.cell? ⟨w.heap.size + 1, 7, none⟩ = some (.int .u16 (y7 : Int))) (exact HSS.out _ (by first | assumption | exact Below.drew (by assumption))) (first
    | (go_at_call 15; (with_reducible refine (HY1'.out _ (HE.out _ (by assumption))).mono ?_); rintro e' w3 ⟨rfl, hb3⟩; have hB3 := hd2.trans (hb3.mono hd2.size))
    | (go_at_call 16; (with_reducible refine (HU.out _).mono ?_); rintro e' w4 ⟨rfl, hb4⟩; have hB4 := hB3.trans (hb4.mono hB3.size))
    | (go_at_call 15; (with_reducible refine (HY2'.out _ (HE.out _ (by assumption))).mono ?_); rintro e' w5 ⟨rfl, hb5⟩; have hB5 := hB4.trans (hb5.mono hB4.size))
    | (go_at_call 13; (with_reducible refine (HSy'.out _ (HE.out _ (by assumption))).mono ?_); rintro e' w6 ⟨rfl, hb6⟩; have hB6 := hB5.trans (hb6.mono hB5.size))
    | (go_at_call 8; (with_reducible refine (HAW.out _ (HE.out _ (by assumption))).mono ?_); rintro e' w7 ⟨rfl, hb7⟩; have hB7 := hB6.trans (hb7.mono hB6.size))
    | fail)
  all_goals
    go_wp2_with fail
    go_ret
    exact ⟨rfl, HB0.out.trans (hB7.mono HB0.out.size)⟩

/-! From the walk to the given statement. -/
set_option linter.unusedVariables false
theorem own : ownKnob Tryd.prog.godebug = none := by kernel_rfl
theorem laidOut : laidOutB Tryd.prog = true := by kernel_rfl
set_option maxRecDepth 100000 in
theorem lifted (os : Os) (started : os.Started) (H : Type) (enc : TypeId × Value → H) :
    ReturnsInHanded {} Tryd.checked os 4 .any (fun w args => (Rows.sixBackSpec.pre enc Tryd.prog Tryd.f4 [] false w args ∧ laidMetH Tryd.prog Rows.sixBackRow.laid w) ∧ sizedMet enc Tryd.prog Tryd.f4 (OpenSpec.ofChange Rows.sixBackSpec) false w args)
      (Rows.sixBackSpec.post enc Tryd.prog Tryd.f4 false true false false) := by
  refine returnsIn_and_shaped (C := Tryd.checked) (X := fun w _ => laidMetH Tryd.prog Rows.sixBackRow.laid w) (fun _ _ _ hh h => h.of_heap hh) own started (by kernel_rfl) Tryd.func4
    (ChangeSpec.witness_shaped (enc := enc) (C := Tryd.checked) (os := os) (X := fun w _ => laidMetH Tryd.prog Rows.sixBackRow.laid w) false (World.laidAll Tryd.prog os Rows.sixBackRow.laid) #[.agg #[.int .u16 0, .int .u16 0, .int .u16 0, .int .u16 0, .int .u16 0, .int .u16 0, .int .u16 0, .int .u16 0], .agg #[.int .u16 0, .int .u16 0, .int .u16 0, .int .u16 0, .int .u16 0, .int .u16 0, .int .u16 0, .int .u16 0]] 8 (World.laidAll_os _ _ _)
      (World.shaped_of_ZipB (by kernel_rfl) (by kernel_rfl)) (by kernel_rfl) (by kernel_rfl) (by kernel_rfl)
      (by rw [MakeChecks.laidMetH_plain _ _ _ (by kernel_rfl)]; exact laidMet_laidAll _ (by kernel_rfl) (by kernel_rfl))) ?_
  intro W base args ds gs before hval0 hW _ _ hL hsh _
  have hval : ∀ (j : Nat) t v, Tryd.f4.params[j]? = some t → args[j]? = some v → Value.okWide Tryd.prog W .any base t v := hval0
  have hW' := hW
  obtain ⟨p, q, hA0, hV, rfl, _, _⟩ := hW
  have hA : DataW.TrodAll enc Tryd.prog W 0 (fun _ => true) true Tryd.f4.params.toList args.toList ds p := hA0
  rw [Tryd.params4] at hA hval
  obtain ⟨v0, vs0, d0, ds0, p0, q0, hargs, rfl, rfl, h0, r0⟩ := trodAll_cons hA
  obtain ⟨v1, vs1, d1, ds1, p1, q1, rfl, rfl, rfl, h1, r1⟩ := trodAll_cons r0
  obtain ⟨rfl, rfl, rfl⟩ := trodAll_nil r1
  obtain rfl : args = #[v0, v1] := by cases args; simp_all
  obtain ⟨rfl, rfl⟩ := trodVars_none hV
  obtain ⟨xs0, rfl, n0⟩ := WideMaps.okWide_arr arr8_key (hval 0 23 v0 rfl rfl)
  have k0 := h0
  obtain ⟨rfl, x0, l0, m0, rfl⟩ := arr8_open n0 h0
  have lt0 : ∀ x ∈ ([] : List MemPlace), x.block < W.heap.size := fun x hx => by cases hx
  obtain ⟨xs1, rfl, n1⟩ := WideMaps.okWide_arr arr8_key (hval 1 23 v1 rfl rfl)
  have k1 := h1
  obtain ⟨rfl, x1, l1, m1, rfl⟩ := arr8_open n1 h1
  have lt1 : ∀ x ∈ ([] : List MemPlace), x.block < W.heap.size := fun x hx => by cases hx
  clear hA0 hval0
  rw [MakeChecks.laidMetH_plain _ _ _ (by kernel_rfl)] at hL
  have hEnv : Env W := env_of hsh (Lib.laidMet.reads hL (.tail _ (.head _))) (Lib.laidMet.reads hL (.tail _ (.tail _ (.head _)))) (Lib.laidMet.reads hL (.tail _ (.tail _ (.tail _ (.tail _ (.head _)))))) (Lib.laidMet.reads hL (.tail _ (.tail _ (.tail _ (.tail _ (.tail _ (.head _)))))))
  refine (walk x0 x1 W l0 m0 l1 m1 hEnv).mono fun e W' ⟨he, bel⟩ => ?_
  subst he
  exact ⟨_, rfl, _, _, _, [], _, [], hW', trodAll_mk1 (shut_bool Tryd.underlying4 _), (trodAll_cons_mk (Below.trod laidOut (by kernel_rfl) (of_decide_eq_true (by kernel_rfl)) k0 bel lt0) (trodAll_cons_mk (Below.trod laidOut (by kernel_rfl) (of_decide_eq_true (by kernel_rfl)) k1 bel lt1) trodAll_mk0)), rfl, bel.frame _, fun h => by cases h⟩

theorem row_holds : Rows.SixBackSaid :=
  OpenClaim.holds_of_wide 4 Tryd.f4 rfl rfl rfl rfl rfl rfl rfl ⟨rfl, rfl, rfl, rfl, rfl⟩ rfl rfl rfl rfl rfl (by kernel_rfl) Tryd.func4 (by kernel_rfl)
    (of_decide_eq_true (by kernel_rfl)) (by unfold Func.isWrapper; first | (rw [if_pos (by decide +kernel)]; kernel_rfl) | (rw [if_neg (by decide +kernel)]; exact ⟨rfl, rfl⟩))
    (fun os started H enc _ => lifted os started H enc)

theorem proved : Rows.SixBackCardSaid :=
  Claim7.holds_tied_plain_at .later [] [.data, .data, .data, .data, .sentinel, .sentinel, .pinned, .pinned] true (true, "088f59884a7ce57d9b8a56315fa832e1f9ff9639c70780f69158d45bb9a90f63") true
    row_holds (fun _ h => by cases h) (by kernel_rfl) (fun _ h => by cases h) sixBack_row_tie rfl ⟨rfl, rfl⟩ (by kernel_rfl) rfl
    (fun f fn hf hfn => by
      obtain rfl : f = 4 := Option.some.inj ((show Tryd.prog.funcNamed "fascia/fascialaw13.SixBack" = some 4 by kernel_rfl).symm.trans hf) |>.symm
      obtain rfl : fn = Tryd.f4 := (Option.some.inj (Tryd.func4.symm.trans hfn)).symm
      exact ⟨by kernel_rfl, fun j t ht => by
        rw [Tryd.params4] at ht
        have hm : t ∈ [23, 23] := by simpa using Array.mem_of_getElem? ht
        have hall : ([23, 23].all fun u => !Tryd.prog.wantsStandIn u) = true := by kernel_rfl
        exact (show Tryd.prog.wantsStandIn t = false by simpa using List.all_eq_true.1 hall t hm)⟩)
    (by kernel_rfl)
end Go.Proofs.YtkbaafmkgjffoaaDoor.sixBack
