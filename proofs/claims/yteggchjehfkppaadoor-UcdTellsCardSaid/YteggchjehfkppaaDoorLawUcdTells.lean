/-
  What is known of a code point, the table, and brackets, are exactly as the document defines: for any code point, and those at, and beside, the ends of any row.
-/
import Derived.Test.YteggchjehfkppaaDoorUcdOpen
import Derived.Test.YteggchjehfkppaaDoorUcdRefD
import Derived.IntWalk
import Derived.Test.YteggchjehfkppaaDoorUcdLaid
import Derived.Test.YteggchjehfkppaaDoorTie
import Derived.Test.YteggchjehfkppaaDoorCards
import Derived.ProofKit
import Derived.Lay
import Derived.Stop.Joined
import Derived.SevenTiedAt
namespace Go.Proofs.YteggchjehfkppaaDoor.ucdTells
open Go.ChangeShapes Go.WideShapes Go.ChangeAt Go.RowKit Ucd

theorem RefTable_out (w : World) : Calls Tryd.prog 9 #[] w (TableOut w) := by
  refine (RefTable_any w).mono ?_
  rintro e w' ⟨v, rfl, hown, hb⟩
  have hown' := hown
  obtain ⟨h1, h2⟩ := hown
  rcases h2 with ⟨_, h2⟩ | ⟨g, cap, cur, rfl, hbase, hg, hcap, h3, h4, ht⟩
  · omega
  · exact ⟨g, cap, rfl, hcap, hbase, ⟨(Array.getElem?_eq_some_iff.1 hg).1, fun i k hi hk => by rw [hown'.cellAt (i * 9 + k) (by omega), TC_get 166 i k hi hk]⟩, hb⟩

def TRel (ga gb : Nat) (w : World) (i : Value) (wr : World) : Prop :=
  ∃ k : Nat, k ≤ 166 ∧ i = .int .i64 k ∧ TabAt wr ga ∧ TabAt wr gb ∧ BrIs wr ∧ Below w.heap.size w wr

/-- five code points in a block -/
def FiveAt (w : World) (b : Nat) (l : List Int) : Prop := b < w.heap.size ∧ l.length = 5 ∧ ∀ k, k < 5 → w.cell? ⟨b, k, none⟩ = some (.int .i32 (l.getD k 0))
theorem FiveAt.go {w w' : World} {b : Nat} {l : List Int} (h : FiveAt w b l) (hb : Below w.heap.size w w') : FiveAt w' b l :=
  ⟨Nat.lt_of_lt_of_le h.1 hb.size, h.2.1, fun k hk => (hb.cell (p := ⟨b, k, none⟩) h.1).trans (h.2.2 k hk)⟩
def FRel (b : Nat) (l : List Int) (w : World) (i : Value) (wr : World) : Prop :=
  ∃ k : Nat, k ≤ 5 ∧ i = .int .i64 k ∧ FiveAt wr b l ∧ BrIs wr ∧ Below w.heap.size w wr

theorem br_is (c : Int) : (∃ o b, br c = (o, b, true) ∧ o ≠ 0) ∨ br c = (0, false, false) := by
  rcases br_spec c with h | ⟨o, b, x, h1, h2, _⟩
  · exact .inr h
  · refine .inl ⟨o, b, h1, ?_⟩
    rintro rfl
    rw [show br 0 = (0, false, false) from rfl] at h2
    simp at h2

theorem RefBracket_lit (r a : Int) (b c : Bool) (h : br r = (a, b, c)) (w : World) : Calls Tryd.prog 13 #[.int .i32 r] w fun e w' => e = .returned (.tuple #[.int .i32 a, .bool b]) ∧ w = w' := by
  have := RefBracket_any r w
  rw [h] at this
  exact this

set_option maxRecDepth 100000 in
set_option maxHeartbeats 2000000 in
theorem walk (r n : Int) (w : World) (hr : -2147483648 ≤ r) (hr2 : r ≤ 2147483647) (hn : 0 ≤ n) (hn2 : n ≤ 255) (hB : BrIs w) : Calls Tryd.prog 3 #[.int .i32 r, .int .u8 n] w fun e w' => e = .returned (.bool true) ∧ Below w.heap.size w w' := by
  have HB := Lib.hid hB
  clear hB
  obtain ⟨i, hi⟩ : ∃ i : Nat, (i : Int) = n % 166 := ⟨(n % 166).toNat, by omega⟩
  have hi6 : i < 166 := by omega
  have hni : n % 166 = (i : Int) := hi.symm
  clear hi
  go_enter Tryd.func3, Tryd.ntmps3
  go_wp2_with (first
    | (go_at_call 8; refine (Table_out _).mono ?_; rintro e w1 ⟨ga, ca, rfl, hca, hga, hTa, hb1⟩)
    | (go_at_call 9; refine (RefTable_out _).mono ?_; rintro e w2 ⟨gb, cb, rfl, hcb, hgb, hTb, hb2⟩))
  have HTA := Lib.hid (hTa.go hb2)
  have HTB := Lib.hid hTb
  have HB2 := Lib.hid ((HB.out.go hb1).go hb2)
  have hb12 := upB hb1 hb2
  clear hTa hTb hb1 hb2 HB
  go_loopw [25] (fun i wr => TRel ga gb w i wr) (fun i _ => 166 - (intOf i).toNat)
  case atStart => exact ⟨0, by omega, rfl, HTA.out, HTB.out, HB2.out, hb12⟩
  case round =>
    clear HTA HTB HB2 hb12
    obtain ⟨k, hk, rfl, hTa, hTb, hBr, hbel⟩ := hrel
    have HTA := Lib.hid hTa
    have HTB := Lib.hid hTb
    have HBR := Lib.hid hBr
    have hal := hTa.1
    have hbl := hTb.1
    clear hTa hTb hBr
    by_cases hlt : k < 166
    · obtain ⟨t0, t1, t2, t3, t4, t5, t6, t7, t8⟩ := HTA.out.cells k hlt
      obtain ⟨u0, u1, u2, u3, u4, u5, u6, u7, u8⟩ := HTB.out.cells k hlt
      have k0 : (0 : Int) ≤ (k : Int) := by omega
      have k1 : (k : Int) < 166 := by omega
      go_wp2
      go_quiet (fail)
      go_wp2
      go_roundw
      case rel => exact ⟨k + 1, by omega, by go_num, ⟨HTA.out.1, HTA.out.2⟩, ⟨HTB.out.1, HTB.out.2⟩, HBR.out, ⟨hbel.os, hbel.tape, hbel.output, hbel.size, hbel.block⟩⟩
      case measure => simp [intOf]; omega
    · obtain rfl : k = 166 := by omega
      obtain ⟨t0, t1, t2, t3, t4, t5, t6, t7, t8⟩ := HTB.out.cells i hi6
      have hfb := fr_bd hi6
      have i0 : (0 : Int) ≤ (i : Int) := by omega
      have i1 : (i : Int) < 166 := by omega
      clear HTA
      rw [show (((166 : Nat)) : Int) = 166 from rfl]
      go_wp2
      have hfive : FiveAt ((wr.alloc (.cells #[.int .i32 (fr i), .int .i32 (to i), .int .u8 (g (pr i) 0), .int .u8 (g (pr i) 1), .int .u8 (g (pr i) 2), .int .u8 (g (pr i) 3), .int .u8 (g (pr i) 4), .int .u8 (g (pr i) 5), .int .u8 (g (pr i) 6)] 27)).alloc (.cells #[.int .i32 r, .int .i32 (fr i - 1), .int .i32 (fr i), .int .i32 (to i), .int .i32 (to i + 1)] 21)) (wr.heap.size + 1) [r, fr i - 1, fr i, to i, to i + 1] := by
        refine ⟨by simp, rfl, fun k hk => ?_⟩
        have hk' : k = 0 ∨ k = 1 ∨ k = 2 ∨ k = 3 ∨ k = 4 := by omega
        rcases hk' with rfl | rfl | rfl | rfl | rfl <;> simp
      have hbw := ((Below.refl _ wr).alloc (Nat.le_refl _) (.cells #[.int .i32 (fr i), .int .i32 (to i), .int .u8 (g (pr i) 0), .int .u8 (g (pr i) 1), .int .u8 (g (pr i) 2), .int .u8 (g (pr i) 3), .int .u8 (g (pr i) 4), .int .u8 (g (pr i) 5), .int .u8 (g (pr i) 6)] 27)).alloc (by simp) (.cells #[.int .i32 r, .int .i32 (fr i - 1), .int .i32 (fr i), .int .i32 (to i), .int .i32 (to i + 1)] 21)
      obtain ⟨W, hW⟩ : ∃ W, (wr.alloc (.cells #[.int .i32 (fr i), .int .i32 (to i), .int .u8 (g (pr i) 0), .int .u8 (g (pr i) 1), .int .u8 (g (pr i) 2), .int .u8 (g (pr i) 3), .int .u8 (g (pr i) 4), .int .u8 (g (pr i) 5), .int .u8 (g (pr i) 6)] 27)).alloc (.cells #[.int .i32 r, .int .i32 (fr i - 1), .int .i32 (fr i), .int .i32 (to i), .int .i32 (to i + 1)] 21) = W := ⟨_, rfl⟩
      rw [hW] at hfive hbw ⊢
      have HBW := Lib.hid (HBR.out.go hbw)
      have hbelW := upB hbel hbw
      have hlb : Hid (∀ k, k < 5 → -2147483648 ≤ [r, fr i - 1, fr i, to i, to i + 1].getD k 0 ∧ [r, fr i - 1, fr i, to i, to i + 1].getD k 0 ≤ 2147483647) := Lib.hid (fun k hk => by
        have hk' : k = 0 ∨ k = 1 ∨ k = 2 ∨ k = 3 ∨ k = 4 := by omega
        rcases hk' with rfl | rfl | rfl | rfl | rfl <;> simp <;> omega)
      obtain ⟨B, hBB⟩ : ∃ B, wr.heap.size + 1 = B := ⟨_, rfl⟩
      obtain ⟨l, hl⟩ : ∃ l, [r, fr i - 1, fr i, to i, to i + 1] = l := ⟨_, rfl⟩
      rw [hBB] at hfive ⊢
      rw [hl] at hfive hlb
      have HF := Lib.hid hfive
      clear hW hBB hl hfive hbw hbel hfb hni t0 t1 t2 t3 t4 t5 t6 t7 t8
      go_loopw [59] (fun i wr => FRel B l w i wr) (fun i _ => 5 - (intOf i).toNat)
      case atStart => exact ⟨0, by omega, rfl, HF.out, HBW.out, hbelW⟩
      case round =>
        rename_i wr2
        clear HF HBW hbelW
        obtain ⟨k, hk, rfl, hF, hBr, hbel⟩ := hrel
        have HBR2 := Lib.hid hBr
        by_cases hlt : k < 5
        · obtain ⟨hBl, hl5, hc⟩ := hF
          have c0 := hc k hlt
          obtain ⟨q1, q2⟩ := hlb.out k hlt
          obtain ⟨c, hce⟩ : ∃ c, l.getD k 0 = c := ⟨_, rfl⟩
          rw [hce] at c0 q1 q2
          have HF2 := Lib.hid (And.intro hBl (And.intro hl5 hc))
          clear hc hl5 hce hBr
          have k0 : (0 : Int) ≤ (k : Int) := by omega
          have k1 : (k : Int) < 5 := by omega
          go_wp2_with (first
            | (go_at_call 10; refine (Of_any c _).mono ?_; rintro e w3 ⟨rfl, hb3⟩)
            | (go_at_call 11; refine (RefOf_any c _ q1 q2).mono ?_; rintro e w4 ⟨rfl, hb4⟩))
          have hb34 := upB hb3 hb4
          go_roundw
          case rel => exact ⟨k + 1, by omega, by go_num, FiveAt.go HF2.out hb34, HBR2.out.go hb34, upB hbel hb34⟩
          case measure => simp [intOf]; omega
        · clear hF
          rcases br_is r with ⟨o, b, hbr, hno⟩ | hbr
          · have hno2 : (o != 0) = true := by simpa using hno
            go_wp2_with (first
              | (go_at_call 12; refine (Bracket_lit r o b true hbr _ HBR2.out).mono ?_; rintro e w3 ⟨rfl, hb3⟩)
              | (go_at_call 13; refine (RefBracket_lit r o b true hbr _).mono ?_; rintro e w4 ⟨rfl, rfl⟩)
              | (go_at_call 14; refine (awake_any _ (HBR2.out.go hb3)).mono ?_; rintro e w5 ⟨rfl, hb5⟩))
            go_ret
            exact ⟨rfl, upB (upB hbel hb3) hb5⟩
          · go_wp2_with (first
              | (go_at_call 12; refine (Bracket_lit r 0 false false hbr _ HBR2.out).mono ?_; rintro e w3 ⟨rfl, hb3⟩)
              | (go_at_call 13; refine (RefBracket_lit r 0 false false hbr _).mono ?_; rintro e w4 ⟨rfl, rfl⟩)
              | (go_at_call 14; refine (awake_any _ (HBR2.out.go hb3)).mono ?_; rintro e w5 ⟨rfl, hb5⟩))
            go_ret
            exact ⟨rfl, upB (upB hbel hb3) hb5⟩

/-! From the walk to the given statement. -/
set_option linter.unusedVariables false
theorem own : ownKnob Tryd.prog.godebug = none := by kernel_rfl
set_option maxRecDepth 100000 in
theorem lifted (os : Os) (started : os.Started) (H : Type) (enc : TypeId × Value → H) :
    ReturnsInHanded {} Tryd.checked os 3 .any (fun w args => (Rows.ucdTellsSpec.pre enc Tryd.prog Tryd.f3 [] false w args ∧ laidMetH Tryd.prog Rows.ucdTellsRow.laid w) ∧ sizedMet enc Tryd.prog Tryd.f3 (OpenSpec.ofChange Rows.ucdTellsSpec) false w args)
      (Rows.ucdTellsSpec.post enc Tryd.prog Tryd.f3 false true false false) := by
  refine returnsInHanded_of_change_and (C := Tryd.checked) (X := fun w _ => laidMetH Tryd.prog Rows.ucdTellsRow.laid w) (fun _ _ _ hh h => h.of_heap hh) own started (by kernel_rfl) Tryd.func3
    (ChangeSpec.witness_shaped (enc := enc) (C := Tryd.checked) (os := os) (X := fun w _ => laidMetH Tryd.prog Rows.ucdTellsRow.laid w) false (World.laidAll Tryd.prog os Rows.ucdTellsRow.laid) #[.int .i32 0, .int .u8 0] 8 (World.laidAll_os _ _ _)
      (World.shaped_of_ZipB (by kernel_rfl) (by kernel_rfl)) (by kernel_rfl) (by kernel_rfl) (by kernel_rfl)
      (by rw [MakeChecks.laidMetH_plain _ _ _ (by kernel_rfl)]; exact laidMet_laidAll _ (by kernel_rfl) (by kernel_rfl))) ?_
  intro W base args ds gs before hval0 hW _ _ hL _
  have hval : ∀ (j : Nat) t v, Tryd.f3.params[j]? = some t → args[j]? = some v → Value.okWide Tryd.prog W .any base t v := hval0
  have hW' := hW
  obtain ⟨p, q, hA0, hV, rfl, _, _⟩ := hW
  have hA : DataW.TrodAll enc Tryd.prog W 0 (fun _ => true) true Tryd.f3.params.toList args.toList ds p := hA0
  rw [Tryd.params3] at hA hval
  obtain ⟨v0, vs0, d0, ds0, p0, q0, hargs, rfl, rfl, h0, r0⟩ := trodAll_cons hA
  obtain ⟨v1, vs1, d1, ds1, p1, q1, rfl, rfl, rfl, h1, r1⟩ := trodAll_cons r0
  obtain ⟨rfl, rfl, rfl⟩ := trodAll_nil r1
  obtain rfl : args = #[v0, v1] := by cases args; simp_all
  obtain ⟨rfl, rfl⟩ := trodVars_none hV
  obtain ⟨a0, rfl, rfl, rfl, w0⟩ := open_int Tryd.underlying21 (hval 0 21 v0 rfl rfl) h0
  have b0 : -2147483648 ≤ a0 ∧ a0 ≤ 2147483647 := by simpa [Lit.wf, IntKind.min, IntKind.max, IntKind.signed, IntKind.bits] using w0
  obtain ⟨a1, rfl, rfl, rfl, w1⟩ := open_int Tryd.underlying5 (hval 1 5 v1 rfl rfl) h1
  have b1 : 0 ≤ a1 ∧ a1 ≤ 255 := by simpa [Lit.wf, IntKind.min, IntKind.max, IntKind.signed, IntKind.bits] using w1
  clear hA0 hval0
  rw [MakeChecks.laidMetH_plain _ _ _ (by kernel_rfl)] at hL
  have hBr : BrIs W := brIs_of_reads (Lib.laidMet.reads hL (.tail _ (.tail _ (.tail _ (.tail _ (.tail _ (.tail _ (.head _))))))))
  refine (walk a0 a1 W b0.1 b0.2 b1.1 b1.2 hBr).mono fun e W' ⟨he, bel⟩ => ?_
  subst he
  exact ⟨_, rfl, _, _, _, [], _, [], hW', trodAll_mk1 (shut_bool Tryd.underlying4 _), (trodAll_cons_mk (shut_int Tryd.underlying21 w0) (trodAll_cons_mk (shut_int Tryd.underlying5 w1) trodAll_mk0)), rfl, bel.frame _, fun h => by cases h⟩

theorem row_holds : Rows.UcdTellsSaid :=
  OpenClaim.holds_of_wide 3 Tryd.f3 rfl rfl rfl rfl rfl rfl rfl ⟨rfl, rfl, rfl, rfl, rfl⟩ rfl rfl rfl rfl rfl (by kernel_rfl) Tryd.func3 (by kernel_rfl)
    (of_decide_eq_true (by kernel_rfl)) (by unfold Func.isWrapper; first | (rw [if_pos (by decide +kernel)]; kernel_rfl) | (rw [if_neg (by decide +kernel)]; exact ⟨rfl, rfl⟩))
    (fun os started H enc _ => lifted os started H enc)

theorem proved : Rows.UcdTellsCardSaid :=
  Claim7.holds_tied_plain_at .later [] [.data, .data, .data, .data, .sentinel, .sentinel, .data, .pinned] true (true, "bd988b9575ebbf85d13ef5fdc5027332695ade4174a37e91737069d49f722970") true
    row_holds (fun _ h => by cases h) (by kernel_rfl) (fun _ h => by cases h) ucdTells_row_tie rfl ⟨rfl, rfl⟩ (by kernel_rfl) rfl
    (fun f fn hf hfn => by
      obtain rfl : f = 3 := Option.some.inj ((show Tryd.prog.funcNamed "fascia/fascialaw02.UcdTells" = some 3 by kernel_rfl).symm.trans hf) |>.symm
      obtain rfl : fn = Tryd.f3 := (Option.some.inj (Tryd.func3.symm.trans hfn)).symm
      exact ⟨by kernel_rfl, fun j t ht => by
        rw [Tryd.params3] at ht
        have hm : t ∈ [21, 5] := by simpa using Array.mem_of_getElem? ht
        have hall : ([21, 5].all fun u => !Tryd.prog.wantsStandIn u) = true := by kernel_rfl
        exact (show Tryd.prog.wantsStandIn t = false by simpa using List.all_eq_true.1 hall t hm)⟩)
    (by kernel_rfl)
end Go.Proofs.YteggchjehfkppaaDoor.ucdTells
