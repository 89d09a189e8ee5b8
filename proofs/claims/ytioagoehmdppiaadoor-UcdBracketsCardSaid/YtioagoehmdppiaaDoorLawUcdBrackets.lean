/-
  The other one of a bracket is one, whose other one it is, and just one of both opens; both are of the class ON, punctuation, of one width: for every code point, and those at the ends of every row.
-/
import Derived.Test.YtioagoehmdppiaaDoorUcdOpen
import Derived.IntWalk
import Derived.Test.YtioagoehmdppiaaDoorUcdLaid
import Derived.Test.YtioagoehmdppiaaDoorTie
import Derived.Test.YtioagoehmdppiaaDoorCards
import Derived.ProofKit
import Derived.Lay
import Derived.Stop.Joined
import Derived.SevenTiedAt
namespace Go.Proofs.YtioagoehmdppiaaDoor.ucdBrackets
open Go.ChangeShapes Go.WideShapes Go.ChangeAt Go.RowKit Ucd

/-- the loop over three code points -/
def BRel (B : Nat) (cs : List Int) (w : World) (i : Value) (wr : World) : Prop :=
  ∃ k : Nat, k ≤ 3 ∧ i = .int .i64 k ∧ B < wr.heap.size ∧ (∀ k, k < 3 → wr.cell? ⟨B, k, none⟩ = some (.int .i32 (cs.getD k 0))) ∧ BrIs wr ∧ Below w.heap.size w wr
theorem three (w : World) (a b c : Int) (t : TypeId) : ∀ k, k < 3 → (w.alloc (.cells #[.int .i32 a, .int .i32 b, .int .i32 c] t)).drew.cell? ⟨w.heap.size, k, none⟩ = some (.int .i32 ([a, b, c].getD k 0)) := by
  intro k hk
  have : k = 0 ∨ k = 1 ∨ k = 2 := by omega
  rcases this with rfl | rfl | rfl <;> simp

set_option maxRecDepth 100000 in
set_option maxHeartbeats 1000000 in
theorem walk (r n : Int) (w : World) (_hr : -2147483648 ≤ r) (_hr2 : r ≤ 2147483647) (hn : 0 ≤ n) (hn2 : n ≤ 255) (hB : BrIs w) : Calls Tryd.prog 6 #[.int .i32 r, .int .u8 n] w fun e w' => e = .returned (.bool true) ∧ Below w.heap.size w w' := by
  obtain ⟨i, hi⟩ : ∃ i : Nat, (i : Int) = n % 166 := ⟨(n % 166).toNat, by omega⟩
  have hi6 : i < 166 := by omega
  have HI := Lib.hid hi
  clear hi
  have HB := Lib.hid hB
  clear hB
  go_enter Tryd.func6, Tryd.ntmps6
  go_wp2_with (go_at_call 8; refine (Table_out _).mono ?_; rintro e w1 ⟨gt, cap, rfl, hcap, hgt, hT, hb1⟩)
  have hB1 := HB.out.go hb1
  have HB1 := Lib.hid hB1
  clear hB1 HB
  obtain ⟨t0, t1, t2⟩ := hT.cells i hi6
  clear t2
  have hm : n.tmod 166 = (i : Int) := by rw [Int.tmod_eq_emod_of_nonneg hn]; exact HI.out.symm
  have hw : IntKind.i64.wrap (i : Int) = (i : Int) := IntWalk.i64_in _ (by omega)
  have hw0 : IntKind.i64.wrap n = n := IntWalk.i64_in _ (by omega)
  have hz : ¬ ((166 : Int) = 0) := by decide
  have m0 : (0 : Int) ≤ (i : Int) := by omega
  have m1 : (i : Int) < 166 := by omega
  go_region_held3 (fun w' => w'.cell? ⟨gt, i * 9, none⟩ = some (.int .i32 (fr i)) ∧ w'.cell? ⟨gt, i * 9 + 1, none⟩ = some (.int .i32 (to i))) (first | go_keep | exact ⟨t0, t1⟩) (first | fail)
  have hW : Below w1.heap.size w1 (w1.alloc (.cells #[.int .i32 r, .int .i32 (fr i), .int .i32 (to i)] 21)).drew := ((Below.refl _ w1).alloc (Nat.le_refl _) _).drew
  have h3 := three w1 r (fr i) (to i) 21
  have hB2 := HB1.out.go hW
  have hb2 := upB hb1 hW
  have hs2 : w1.heap.size < (w1.alloc (.cells #[.int .i32 r, .int .i32 (fr i), .int .i32 (to i)] 21)).drew.heap.size := by simp
  obtain ⟨W, hWW⟩ : ∃ W, (w1.alloc (.cells #[.int .i32 r, .int .i32 (fr i), .int .i32 (to i)] 21)).drew = W := ⟨_, rfl⟩
  rw [hWW] at h3 hB2 hb2 hs2 ⊢
  obtain ⟨cs, hcs⟩ : ∃ cs, [r, fr i, to i] = cs := ⟨_, rfl⟩
  rw [hcs] at h3
  obtain ⟨B, hBB⟩ : ∃ B, w1.heap.size = B := ⟨_, rfl⟩
  rw [hBB] at h3 hs2 ⊢
  have H3 := Lib.hid h3
  have HB2 := Lib.hid hB2
  clear hWW hcs hBB h3 hB2 hW HB1 hT hb1 hm hw hw0 hz m0 m1
  go_wp2
  have f0 := fld0
  have f1 := fld1
  go_loopw [39] (fun i wr => BRel B cs w i wr) (fun i _ => 3 - (intOf i).toNat)
  case atStart => exact ⟨0, by omega, rfl, hs2, H3.out, HB2.out, hb2⟩
  case round =>
    clear H3 HB2 hb2
    obtain ⟨k, hk, rfl, hBl, hc3, hBr, hbel⟩ := hrel
    have HC := Lib.hid hc3
    have HR := Lib.hid hBr
    clear hc3 hBr
    by_cases hlt : k < 3
    · have hc := HC.out k hlt
      generalize cs.getD k 0 = c at hc
      rcases br_spec c with hno | ⟨o, b, x, h1, h2, h3, h4⟩
      · have HN := Lib.hid hno
        clear hno
        go_wp2_with (go_at_call 12; refine (Bracket_lit c 0 false false HN.out _ HR.out).mono ?_; rintro e w3 ⟨rfl, hb3⟩)
        go_roundw
        case rel => exact ⟨k + 1, by omega, by go_num, Nat.lt_of_lt_of_le hBl hb3.size, fun j hj => (hb3.cell (p := ⟨B, j, none⟩) hBl).trans (HC.out j hj), HR.out.go hb3, upB hbel hb3⟩
        case measure => simp [intOf]; omega
      · have H1 := Lib.hid h1
        have H2 := Lib.hid h2
        have H3 := Lib.hid h3
        have H4 := Lib.hid h4
        clear h1 h2 h3 h4
        cases b
        all_goals
          go_wp2_with (first
            | (go_at_call_of 12 (Value.int .i32 c); refine (Bracket_lit c o _ true H1.out _ HR.out).mono ?_; rintro e w3 ⟨rfl, hq⟩)
            | (go_at_call_of 12 (Value.int .i32 o); refine (Bracket_lit o c _ true H2.out _ (HR.out.go hq)).mono ?_; rintro e w4 ⟨rfl, hr⟩; replace hq := upB hq hr; clear hr)
            | (go_at_call_of 10 (Value.int .i32 c); refine (Of_lit c _ _ _ _ _ _ _ H3.out _).mono ?_; rintro e w5 ⟨rfl, hr⟩; replace hq := upB hq hr; clear hr)
            | (go_at_call_of 10 (Value.int .i32 o); refine (Of_lit o _ _ _ _ _ _ _ H4.out _).mono ?_; rintro e w5 ⟨rfl, hr⟩; replace hq := upB hq hr; clear hr))
          go_roundw
          case rel => exact ⟨k + 1, by omega, by go_num, Nat.lt_of_lt_of_le hBl hq.size, fun j hj => (hq.cell (p := ⟨B, j, none⟩) hBl).trans (HC.out j hj), HR.out.go hq, upB hbel hq⟩
          case measure => simp [intOf]; omega
    · obtain rfl : k = 3 := by omega
      go_wp2_with (go_at_call 14; refine (awake_any _ HR.out).mono ?_; rintro e w3 ⟨rfl, hb3⟩)
      go_ret
      exact ⟨rfl, upB hbel hb3⟩

/-! From the walk to the given statement. -/
set_option linter.unusedVariables false
theorem own : ownKnob Tryd.prog.godebug = none := by kernel_rfl
set_option maxRecDepth 100000 in
theorem lifted (os : Os) (started : os.Started) (H : Type) (enc : TypeId × Value → H) :
    ReturnsInHanded {} Tryd.checked os 6 .any (fun w args => (Rows.ucdBracketsSpec.pre enc Tryd.prog Tryd.f6 [] false w args ∧ laidMetH Tryd.prog Rows.ucdBracketsRow.laid w) ∧ sizedMet enc Tryd.prog Tryd.f6 (OpenSpec.ofChange Rows.ucdBracketsSpec) false w args)
      (Rows.ucdBracketsSpec.post enc Tryd.prog Tryd.f6 false true false false) := by
  refine returnsInHanded_of_change_and (C := Tryd.checked) (X := fun w _ => laidMetH Tryd.prog Rows.ucdBracketsRow.laid w) (fun _ _ _ hh h => h.of_heap hh) own started (by kernel_rfl) Tryd.func6
    (ChangeSpec.witness_shaped (enc := enc) (C := Tryd.checked) (os := os) (X := fun w _ => laidMetH Tryd.prog Rows.ucdBracketsRow.laid w) false (World.laidAll Tryd.prog os Rows.ucdBracketsRow.laid) #[.int .i32 0, .int .u8 0] 8 (World.laidAll_os _ _ _)
      (World.shaped_of_ZipB (by kernel_rfl) (by kernel_rfl)) (by kernel_rfl) (by kernel_rfl) (by kernel_rfl)
      (by rw [MakeChecks.laidMetH_plain _ _ _ (by kernel_rfl)]; exact laidMet_laidAll _ (by kernel_rfl) (by kernel_rfl))) ?_
  intro W base args ds gs before hval0 hW _ _ hL _
  have hval : ∀ (j : Nat) t v, Tryd.f6.params[j]? = some t → args[j]? = some v → Value.okWide Tryd.prog W .any base t v := hval0
  have hW' := hW
  obtain ⟨p, q, hA0, hV, rfl, _, _⟩ := hW
  have hA : DataW.TrodAll enc Tryd.prog W 0 (fun _ => true) true Tryd.f6.params.toList args.toList ds p := hA0
  rw [Tryd.params6] at hA hval
  obtain ⟨v0, vs0, d0, ds0, p0, q0, hargs, rfl, rfl, h0, r0⟩ := trodAll_cons hA
  obtain ⟨v1, vs1, d1, ds1, p1, q1, rfl, rfl, rfl, h1, r1⟩ := trodAll_cons r0
  obtain ⟨rfl, rfl, rfl⟩ := trodAll_nil r1
  obtain rfl : args = #[v0, v1] := by cases args; simp_all
  obtain ⟨rfl, rfl⟩ := trodVars_none hV
  obtain ⟨a0, rfl, rfl, rfl, w0⟩ := open_int Tryd.underlying21 (hval 0 21 v0 rfl rfl) h0
  have b0 : -2147483648 ≤ a0 ∧ a0 ≤ 2147483647 := by simpa [Lit.wf, IntKind.min, IntKind.max, IntKind.signed, IntKind.bits] using w0
  obtain ⟨a1, rfl, rfl, rfl, w1⟩ := open_int Tryd.underlying5 (hval 1 5 v1 rfl rfl) h1
  have b1 : 0 ≤ a1 ∧ a1 ≤ 255 := by simpa [Lit.wf, IntKind.min, IntKind.max, IntKind.signed, IntKind.bits] using w1
  clear hA0 hval0
  rw [MakeChecks.laidMetH_plain _ _ _ (by kernel_rfl)] at hL
  have hBr : BrIs W := brIs_of_reads (Lib.laidMet.reads hL (.tail _ (.tail _ (.tail _ (.tail _ (.tail _ (.tail _ (.head _))))))))
  refine (walk a0 a1 W b0.1 b0.2 b1.1 b1.2 hBr).mono fun e W' ⟨he, bel⟩ => ?_
  subst he
  exact ⟨_, rfl, _, _, _, [], _, [], hW', trodAll_mk1 (shut_bool Tryd.underlying4 _), (trodAll_cons_mk (shut_int Tryd.underlying21 w0) (trodAll_cons_mk (shut_int Tryd.underlying5 w1) trodAll_mk0)), rfl, bel.frame _, fun h => by cases h⟩

theorem row_holds : Rows.UcdBracketsSaid :=
  OpenClaim.holds_of_wide 6 Tryd.f6 rfl rfl rfl rfl rfl rfl rfl ⟨rfl, rfl, rfl, rfl, rfl⟩ rfl rfl rfl rfl rfl (by kernel_rfl) Tryd.func6 (by kernel_rfl)
    (of_decide_eq_true (by kernel_rfl)) (by unfold Func.isWrapper; first | (rw [if_pos (by decide +kernel)]; kernel_rfl) | (rw [if_neg (by decide +kernel)]; exact ⟨rfl, rfl⟩))
    (fun os started H enc _ => lifted os started H enc)

theorem proved : Rows.UcdBracketsCardSaid :=
  Claim7.holds_tied_plain_at .later [] [.data, .data, .data, .data, .sentinel, .sentinel, .data, .pinned] true (true, "bd988b9575ebbf85d13ef5fdc5027332695ade4174a37e91737069d49f722970") true
    row_holds (fun _ h => by cases h) (by kernel_rfl) (fun _ h => by cases h) ucdBrackets_row_tie rfl ⟨rfl, rfl⟩ (by kernel_rfl) rfl
    (fun f fn hf hfn => by
      obtain rfl : f = 6 := Option.some.inj ((show Tryd.prog.funcNamed "fascia/fascialaw02.UcdBrackets" = some 6 by kernel_rfl).symm.trans hf) |>.symm
      obtain rfl : fn = Tryd.f6 := (Option.some.inj (Tryd.func6.symm.trans hfn)).symm
      exact ⟨by kernel_rfl, fun j t ht => by
        rw [Tryd.params6] at ht
        have hm : t ∈ [21, 5] := by simpa using Array.mem_of_getElem? ht
        have hall : ([21, 5].all fun u => !Tryd.prog.wantsStandIn u) = true := by kernel_rfl
        exact (show Tryd.prog.wantsStandIn t = false by simpa using List.all_eq_true.1 hall t hm)⟩)
    (by kernel_rfl)
end Go.Proofs.YtioagoehmdppiaaDoor.ucdBrackets
