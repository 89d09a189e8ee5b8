/-
  FourForms: whatever the address, how many parts, and the ways in which they are written, it is read as the same: the law returns true.
  Conditions: those of the card (the variables that the row lists are laid as the program's text lays them).
-/
import Derived.Test.YtpmdecdjlegcnaaDoorFourZ
import Derived.Deep.CutRange
import Derived.Test.YtpmdecdjlegcnaaDoorFrame
import Derived.Test.YtpmdecdjlegcnaaDoorTie
import Derived.Test.YtpmdecdjlegcnaaDoorCards
import Derived.Test.YtpmdecdjlegcnaaDoorFourP
import Derived.Test.YtpmdecdjlegcnaaDoorFourW
import Derived.ProofKit
import Derived.Lay
import Derived.Stop.Joined
import Derived.SevenTiedAt
namespace Go.Proofs.YtpmdecdjlegcnaaDoor.fourForms
open Go.ChangeShapes Go.WideShapes Go.ChangeAt Go.RowKit Fou
open Go.ChangeMaps (open_string shut_string)

def how4 (c0 c1 c2 c3 : Nat) : Nat → Nat | 0 => c0 | 1 => c1 | 2 => c2 | _ => c3
theorem how_cell (c0 c1 c2 c3 : Nat) (w : World) (T : TypeId) : ∀ j, j < 4 → (w.alloc (.cells #[.int .u8 (c0 : Int), .int .u8 (c1 : Int), .int .u8 (c2 : Int), .int .u8 (c3 : Int)] T)).cell? ⟨w.heap.size, j, none⟩ = some (.int .u8 (how4 c0 c1 c2 c3 j : Int))
  | 0, _ => by rw [World.cell?_alloc_new]; rfl
  | 1, _ => by rw [World.cell?_alloc_new]; rfl
  | 2, _ => by rw [World.cell?_alloc_new]; rfl
  | 3, _ => by rw [World.cell?_alloc_new]; rfl
theorem how_lt {c0 c1 c2 c3 : Nat} (h0 : c0 < 256) (h1 : c1 < 256) (h2 : c2 < 256) (h3 : c3 < 256) : ∀ j, how4 c0 c1 c2 c3 j < 256
  | 0 => h0 | 1 => h1 | 2 => h2 | _ + 3 => h3
set_option maxRecDepth 100000 in
set_option maxHeartbeats 4000000 in
theorem walk (a0 a1 b0 b1 b2 b3 : Int) (w : World) (h0 : 0 ≤ a0) (h0' : a0 ≤ 4294967295) (h1 : 0 ≤ a1) (h1' : a1 ≤ 255) (g0 : 0 ≤ b0) (g0' : b0 ≤ 255) (g1 : 0 ≤ b1) (g1' : b1 ≤ 255) (g2 : 0 ≤ b2) (g2' : b2 ≤ 255) (g3 : 0 ≤ b3) (g3' : b3 ≤ 255) (hp : PowIs w) (hbr : BruIs w) :
    Calls Tryd.prog 5 #[.int .u32 a0, .int .u8 a1, .agg #[.int .u8 b0, .int .u8 b1, .int .u8 b2, .int .u8 b3]] w (fun e w' => e = .returned (.bool true) ∧ Below w.heap.size w w') := by
  obtain ⟨x, rfl⟩ := Int.eq_ofNat_of_zero_le h0
  obtain ⟨c0, rfl⟩ := Int.eq_ofNat_of_zero_le g0
  obtain ⟨c1, rfl⟩ := Int.eq_ofNat_of_zero_le g1
  obtain ⟨c2, rfl⟩ := Int.eq_ofNat_of_zero_le g2
  obtain ⟨c3, rfl⟩ := Int.eq_ofNat_of_zero_le g3
  have HX := Lib.hid (show x < 4294967296 by omega)
  have hH := how_lt (show c0 < 256 by omega) (show c1 < 256 by omega) (show c2 < 256 by omega) (show c3 < 256 by omega)
  have hC := how_cell c0 c1 c2 c3 w 37
  obtain ⟨H, hHe⟩ : ∃ H, how4 c0 c1 c2 c3 = H := ⟨_, rfl⟩
  rw [hHe] at hH hC
  have HH := Lib.hid hH
  have HC := Lib.hid hC
  have HP := Lib.hid (fun w' (hB : Below w.heap.size w w') => hp.go hB)
  have HBR := Lib.hid (fun w' (hB : Below w.heap.size w w') => hbr.go (Nat.le_refl _) hB)
  obtain ⟨n, hn⟩ : ∃ n : Nat, 1 + a1 % 4 = (n : Int) := ⟨(1 + a1 % 4).toNat, by omega⟩
  obtain ⟨m, hm⟩ : ∃ m : Nat, n = m + 1 := ⟨n - 1, by omega⟩
  have hnm : (n : Int) - 1 = (m : Int) := by omega
  have hm4 : m < 4 := by omega
  have HM := Lib.hid hm
  have hxi : (x : Int) < 4294967296 := by omega
  clear hp hbr h0 h0' g0 g0' g1 g1' g2 g2' g3 g3' hH hC hHe hm
  go_enter Tryd.func5, Tryd.ntmps5
  go_wp2_with fail
  obtain ⟨W0, hW0⟩ : ∃ W0, w.alloc (.cells #[.int .u8 (c0 : Int), .int .u8 (c1 : Int), .int .u8 (c2 : Int), .int .u8 (c3 : Int)] 37) = W0 := ⟨_, rfl⟩
  rw [hW0] at HC ⊢
  have HS0 : Hid (W0.heap.size = w.heap.size + 1 ∧ Below w.heap.size w W0) := Lib.hid (by rw [← hW0]; exact ⟨by simp, (Below.refl _ w).alloc (Nat.le_refl _) _⟩)
  clear hW0
  go_loopg [8, 18] m (fun g s8 s18 wr => ∃ (j c : Nat) (A : Option Addr), s18 = .int .i64 (j : Int) ∧ m - j = g ∧ j ≤ m ∧ s8 = .slice A j c ∧ Hid (wr.ownsRow (w.heap.size + 1) 9 1 (.slice A j c) j (sc ((fpre x H j).map bs))) ∧ Hid (Below (w.heap.size + 1) W0 wr))
  case atStart => exact ⟨0, 0, none, rfl, rfl, Nat.zero_le _, rfl, Lib.hid (World.ownsRow_nil _ _ _ _), Lib.hid (Below.refl _ _)⟩
  case round =>
    obtain ⟨j, c, A, rfl, rfl, hj, rfl, HO, HB0⟩ := hrel
    by_cases hlt : j < m
    · obtain ⟨z, hz⟩ : ∃ z, z = 24 - 8 * j := ⟨_, rfl⟩
      obtain ⟨y, hy⟩ : ∃ y, y = 8 * j := ⟨_, rfl⟩
      have hsz := HB0.out.size
      have hs0 := HS0.out.1
      have hj4 : j < 4 := by omega
      have hcell := (HB0.out.cell (p := ⟨w.heap.size, j, none⟩) (Nat.lt_succ_self _)).trans (HC.out j hj4)
      obtain ⟨g, hg⟩ : ∃ g, H j = g := ⟨_, rfl⟩
      rw [hg] at hcell
      have hg256 : g < 256 := by rw [← hg]; exact HH.out j
      have hyw : IntKind.i64.wrap (8 * (j : Int)) = (y : Int) := by
        have e : 8 * (j : Int) = (y : Int) := by omega
        rw [e]
        exact IntWalk.i64_in _ (by omega)
      have hzw : IntKind.i64.wrap (24 - (y : Int)) = (z : Int) := by
        have e : 24 - (y : Int) = (z : Int) := by omega
        rw [e]
        exact IntWalk.i64_in _ (by omega)
      have hz0 : (0 : Int) ≤ (z : Int) := by omega
      have hz1 : (z : Int) ≤ 24 := by omega
      have hz2 : (z : Int).toNat = z := by omega
      have hji : (0 : Int) ≤ (j : Int) ∧ (j : Int) < 4 := by omega
      have hjt : (j : Int).toNat = j := by omega
      have HV := Lib.hid (byt_and x z j HX.out hz)
      have HV2 : Hid (IntKind.u64.wrap (bits .and .u32 ((x : Int) / 2 ^ z) 255) = (byt x j : Int)) := Lib.hid (by
        rw [HV.out]
        have := byt_lt x j
        rw [IntKind.wrap_u64]
        omega)
      have hB1 : Below w.heap.size w wr := HS0.out.2.trans (HB0.out.mono (Nat.le_succ _))
      have HB1 := Lib.hid hB1
      have HG := Lib.hid hg
      have HG2 := Lib.hid hg256
      have HSZ := Lib.hid (show w.heap.size + 1 ≤ wr.heap.size by omega)
      clear hz hy hB1 hg hg256 hsz hs0
      go_upto_region 6 with fail
      go_region_law (first
        | (go_simp; go_at_call 21; refine (written_z _ _ (byt x j) g HV2.out rfl (by have := byt_lt x j; omega) HG2.out wr.drew (HP.out _ HB1.out.drew) (HBR.out _ HB1.out.drew)).mono ?_; rintro e' w2 ⟨rfl, hb2⟩; have hc2 : w2.cell? ⟨w.heap.size, j, none⟩ = some (.int .u8 (g : Int)) := (hb2.cell (p := ⟨w.heap.size, j, none⟩) (Nat.lt_of_lt_of_le (Nat.lt_succ_self _) HSZ.out)).trans hcell)
        | (refine step_appS (w.heap.size + 1) _ rfl (.tmp 21) (.tmp 33) rfl (.slice A j c) j ((fpre x H j).map bs) rfl ((own_below (w := wr) (w1 := w2) HO.out ⟨hb2.os, hb2.tape, hb2.output, hb2.size, hb2.block⟩).alloc _) (by rw [World.size_alloc]; exact Nat.le_trans HSZ.out (Nat.le_trans hb2.size (Nat.le_succ _))) _ 1 (bs (wrt g (byt x j))) rfl (by rw [World.size_alloc]; exact row_new _ _ 9 [.string (bs (wrt g (byt x j)))] rfl) (j + 1) rfl (by omega) ?_; intro A' c' w' hO' hB')
        | fail)
      all_goals
        go_wp2_with fail
        go_roundg (m - (j + 1))
        case measure => omega
        case rel =>
          refine ⟨j + 1, c', A', by go_num, rfl, by omega, rfl, Lib.hid (by rw [fpre_succ, List.map_append, HG.out]; exact hO'), Lib.hid ?_⟩
          have b2 : Below wr.heap.size wr w2 := ⟨hb2.os, hb2.tape, hb2.output, hb2.size, hb2.block⟩
          exact (HB0.out.trans ((b2.alloc b2.size _).mono HSZ.out)).trans hB'
    · obtain rfl : m = j := by omega
      have hjj : m < 4 := hm4
      clear hj hlt
      obtain ⟨R, hR⟩ : ∃ R, x % 256 ^ (4 - m) = R := ⟨_, rfl⟩
      have HR := Lib.hid hR
      have HXI := Lib.hid hxi
      have hx0 : (0 : Int) ≤ (x : Int) := by omega
      clear hR
      go_upto_region 8 with fail
      go_cut [10] from 36 to 43 (fun s10 wx => s10 = .int .u64 (R : Int) ∧ wx = wr)
      case first =>
        have hc : (n = 1 ∧ m = 0) ∨ (n = 2 ∧ m = 1) ∨ (n = 3 ∧ m = 2) ∨ (n = 4 ∧ m = 3) := by have := HM.out; omega
        have hr0 := rest_and (x := x) (m := 0) (z := 32) HX.out (by decide) rfl
        have hr1 := rest_and (x := x) (m := 1) (z := 24) HX.out (by decide) rfl
        have hr2 := rest_and (x := x) (m := 2) (z := 16) HX.out (by decide) rfl
        have hr3 := rest_and (x := x) (m := 3) (z := 8) HX.out (by decide) rfl
        have Hr0 := Lib.hid hr0
        have Hr1 := Lib.hid hr1
        have Hr2 := Lib.hid hr2
        have Hr3 := Lib.hid hr3
        clear hr0 hr1 hr2 hr3 HO HB0 HS0 HC HP HBR HX
        rcases hc with ⟨rfl, rfl⟩ | ⟨rfl, rfl⟩ | ⟨rfl, rfl⟩ | ⟨rfl, rfl⟩
        all_goals
          go_wp2_with fail
          go_meet
          refine ⟨?_, rfl⟩
          rw [← HR.out]
          first | exact congrArg (Value.int .u64) Hr0.out | exact congrArg (Value.int .u64) Hr1.out | exact congrArg (Value.int .u64) Hr2.out | exact congrArg (Value.int .u64) Hr3.out
      case rest =>
        obtain ⟨rfl, hwx⟩ := hcut
        subst hwx
        rename World => w0
        have hcell := (HB0.out.cell (p := ⟨w.heap.size, m, none⟩) (Nat.lt_succ_self _)).trans (HC.out m hm4)
        obtain ⟨g, hg⟩ : ∃ g, H m = g := ⟨_, rfl⟩
        rw [hg] at hcell
        have hg256 : g < 256 := by rw [← hg]; exact HH.out m
        have HG := Lib.hid hg
        have HG2 := Lib.hid hg256
        have hmi : (0 : Int) ≤ (m : Int) ∧ (m : Int) < 4 := by omega
        have hmt : (m : Int).toNat = m := by omega
        have hsz := HB0.out.size
        have hs0 := HS0.out.1
        have HSZ := Lib.hid (show w.heap.size + 1 ≤ w0.heap.size by omega)
        have HB1 := Lib.hid (HS0.out.2.trans (HB0.out.mono (Nat.le_succ _)))
        have HRL := Lib.hid (show R < 10000000000 by have := rest_lt HX.out m; have := HR.out; omega)
        clear hg hg256 hsz hs0 HC hxi
        go_wp2_with fail
        refine (written_any R g HRL.out HG2.out w0 (HP.out _ HB1.out) (HBR.out _ HB1.out)).mono ?_
        rintro e w1 ⟨rfl, hb1⟩
        obtain ⟨M, hM⟩ : ∃ M, m + 1 = M := ⟨_, rfl⟩
        have HMM := Lib.hid hM
        have HO1 := Lib.hid (own_below HO.out hb1)
        have HSZ1 := Lib.hid (Nat.le_trans HSZ.out hb1.size)
        have HBw := Lib.hid (upB HB1.out hb1)
        clear hM hb1 HO HB0 HS0 HSZ HB1
        go_wp2_with (first | (at_builtin; refine wpList_appS (w.heap.size + 1) _ rfl (.tmp 44) (.tmp 51) rfl _ m M ((fpre x H m).map bs) (bs (wrt g R)) rfl HO1.out HSZ1.out rfl HMM.out (by have := HMM.out; omega) ?_; intro A2 k2 w2 hO2 hB2; have HO2 := Lib.hid hO2; have HB2 := Lib.hid (HBw.out.trans (hB2.mono (Nat.le_succ _))); clear hO2 hB2) | fail)
        refine (join_all (x := x) (H := H) HX.out hm4 HMM.out (by rw [fall, List.map_append, HG.out, HR.out]; exact HO2.out)).mono ?_
        rintro e w3 ⟨rfl, hb3⟩
        have hB3 := upB HB2.out hb3
        clear hb3 HO1 HO2 HB2 HBw HSZ1
        go_wp2_with fail
        refine (says_all HX.out hm4 _).mono ?_
        rintro e w4 ⟨rfl, hb4⟩
        have hB4 := upB hB3 hb4
        go_wp2_with fail
        refine (ends_all HX.out hm4 _).mono ?_
        rintro e w5 ⟨rfl, hb5⟩
        have hB5 := upB hB4 hb5
        go_wp2_with fail
        refine (awake_any _ (HP.out _ hB5)).mono ?_
        rintro e w6 ⟨rfl, hb6⟩
        go_wp2_with fail
        go_ret
        exact ⟨rfl, upB hB5 hb6⟩

/-! From the walk to the given statement. -/
set_option linter.unusedVariables false
theorem own : ownKnob Tryd.prog.godebug = none := by kernel_rfl
theorem laidOut : laidOutB Tryd.prog = true := by kernel_rfl
set_option maxRecDepth 100000 in
theorem lifted (os : Os) (started : os.Started) (H : Type) (enc : TypeId × Value → H) :
    ReturnsInHanded {} Tryd.checked os 5 .any (fun w args => (Rows.fourFormsSpec.pre enc Tryd.prog Tryd.f5 [] false w args ∧ laidMetH Tryd.prog Rows.fourFormsRow.laid w) ∧ sizedMet enc Tryd.prog Tryd.f5 (OpenSpec.ofChange Rows.fourFormsSpec) false w args)
      (Rows.fourFormsSpec.post enc Tryd.prog Tryd.f5 false true false false) := by
  refine returnsInHanded_of_change_and (C := Tryd.checked) (X := fun w _ => laidMetH Tryd.prog Rows.fourFormsRow.laid w) (fun _ _ _ hh h => h.of_heap hh) own started (by kernel_rfl) Tryd.func5
    (ChangeSpec.witness_shaped (enc := enc) (C := Tryd.checked) (os := os) (X := fun w _ => laidMetH Tryd.prog Rows.fourFormsRow.laid w) false (World.laidAll Tryd.prog os Rows.fourFormsRow.laid) #[.int .u32 0, .int .u8 0, .agg #[.int .u8 0, .int .u8 0, .int .u8 0, .int .u8 0]] 8 (World.laidAll_os _ _ _)
      (World.shaped_of_ZipB (by kernel_rfl) (by kernel_rfl)) (by kernel_rfl) (by kernel_rfl) (by kernel_rfl)
      (by rw [MakeChecks.laidMetH_plain _ _ _ (by kernel_rfl)]; exact laidMet_laidAll _ (by kernel_rfl) (by kernel_rfl))) ?_
  intro W base args ds gs before hval0 hW _ _ hL _
  have hval : ∀ (j : Nat) t v, Tryd.f5.params[j]? = some t → args[j]? = some v → Value.okWide Tryd.prog W .any base t v := hval0
  have hW' := hW
  obtain ⟨p, q, hA0, hV, rfl, _, _⟩ := hW
  have hA : DataW.TrodAll enc Tryd.prog W 0 (fun _ => true) true Tryd.f5.params.toList args.toList ds p := hA0
  rw [Tryd.params5] at hA hval
  obtain ⟨v0, vs0, d0, ds0, p0, q0, hargs, rfl, rfl, h0, r0⟩ := trodAll_cons hA
  obtain ⟨v1, vs1, d1, ds1, p1, q1, rfl, rfl, rfl, h1, r1⟩ := trodAll_cons r0
  obtain ⟨v2, vs2, d2, ds2, p2, q2, rfl, rfl, rfl, h2, r2⟩ := trodAll_cons r1
  obtain ⟨rfl, rfl, rfl⟩ := trodAll_nil r2
  obtain rfl : args = #[v0, v1, v2] := by cases args; simp_all
  obtain ⟨rfl, rfl⟩ := trodVars_none hV
  obtain ⟨a0, rfl, rfl, rfl, w0⟩ := open_int Tryd.underlying22 (hval 0 22 v0 rfl rfl) h0
  have b0 : 0 ≤ a0 ∧ a0 ≤ 4294967295 := by simpa [Lit.wf, IntKind.min, IntKind.max, IntKind.signed, IntKind.bits] using w0
  obtain ⟨a1, rfl, rfl, rfl, w1⟩ := open_int Tryd.underlying5 (hval 1 5 v1 rfl rfl) h1
  have b1 : 0 ≤ a1 ∧ a1 ≤ 255 := by simpa [Lit.wf, IntKind.min, IntKind.max, IntKind.signed, IntKind.bits] using w1
  obtain ⟨xs2, rfl, n2⟩ := WideMaps.okWide_arr arr4_key (hval 2 37 v2 rfl rfl)
  have k2 := h2
  obtain ⟨rfl, c0, c1, c2, c3, rfl, e0, e1, e2, e3⟩ := arr4_open n2 h2
  have lt2 : ∀ x ∈ ([] : List MemPlace), x.block < W.heap.size := fun x hx => by cases hx
  clear hA0 hval0
  rw [MakeChecks.laidMetH_plain _ _ _ (by kernel_rfl)] at hL
  have hPow : PowIs W := powIs_of_reads (Lib.laidMet.reads hL (.tail _ (.tail _ (.head _))))
  have hBru : BruIs W := bru_of_reads (Lib.laidMet.reads hL (.tail _ (.head _)))
  refine (walk a0 a1 c0 c1 c2 c3 W b0.1 b0.2 b1.1 b1.2 e0.1 e0.2 e1.1 e1.2 e2.1 e2.2 e3.1 e3.2 hPow hBru).mono fun e W' ⟨he, bel⟩ => ?_
  subst he
  exact ⟨_, rfl, _, _, _, [], _, [], hW', trodAll_mk1 (shut_bool Tryd.underlying4 _), (trodAll_cons_mk (shut_int Tryd.underlying22 w0) (trodAll_cons_mk (shut_int Tryd.underlying5 w1) (trodAll_cons_mk (Below.trod laidOut (by kernel_rfl) (of_decide_eq_true (by kernel_rfl)) k2 bel lt2) trodAll_mk0))), rfl, bel.frame _, fun h => by cases h⟩

theorem row_holds : Rows.FourFormsSaid :=
  OpenClaim.holds_of_wide 5 Tryd.f5 rfl rfl rfl rfl rfl rfl rfl ⟨rfl, rfl, rfl, rfl, rfl⟩ rfl rfl rfl rfl rfl (by kernel_rfl) Tryd.func5 (by kernel_rfl)
    (of_decide_eq_true (by kernel_rfl)) (by unfold Func.isWrapper; first | (rw [if_pos (by decide +kernel)]; kernel_rfl) | (rw [if_neg (by decide +kernel)]; exact ⟨rfl, rfl⟩))
    (fun os started H enc _ => lifted os started H enc)

theorem proved : Rows.FourFormsCardSaid :=
  Claim7.holds_tied_plain_at .later [] [.data, .data, .data, .data, .pinned, .pinned] true (true, "8c916d87dac566d43f12e0c8e58974611998e2cc655645d3f4376929a58bf9d1") false
    row_holds (fun _ h => by cases h) (by kernel_rfl) (fun _ h => by cases h) fourForms_row_tie rfl ⟨rfl, rfl⟩ (by kernel_rfl) rfl
    (fun f fn hf hfn => by
      obtain rfl : f = 5 := Option.some.inj ((show Tryd.prog.funcNamed "fascia/fascialaw12.FourForms" = some 5 by kernel_rfl).symm.trans hf) |>.symm
      obtain rfl : fn = Tryd.f5 := (Option.some.inj (Tryd.func5.symm.trans hfn)).symm
      exact ⟨by kernel_rfl, fun j t ht => by
        rw [Tryd.params5] at ht
        have hm : t ∈ [22, 5, 37] := by simpa using Array.mem_of_getElem? ht
        have hall : ([22, 5, 37].all fun u => !Tryd.prog.wantsStandIn u) = true := by kernel_rfl
        exact (show Tryd.prog.wantsStandIn t = false by simpa using List.all_eq_true.1 hall t hm)⟩)
    (by kernel_rfl)
end Go.Proofs.YtpmdecdjlegcnaaDoor.fourForms
