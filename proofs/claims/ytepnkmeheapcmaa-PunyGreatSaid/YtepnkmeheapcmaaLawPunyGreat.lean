/-
  For any scalar and any byte: who is too long is refused, one less is not (fascialaw04.PunyGreat answers true). No condition.
-/
import Derived.Test.YtepnkmeheapcmaaPunyR
import Derived.Test.YtepnkmeheapcmaaFrame
import Derived.RegionTactic
namespace Go.Proofs.Ytepnkmeheapcmaa.punyGreat
open Go.ChangeShapes Go.WideShapes Go.ChangeAt Go.RowKit Puny
open Go.ChangeMaps (open_string shut_string)
open Go.Maps (Keyed)

set_option maxRecDepth 100000 in
set_option maxHeartbeats 4000000 in
theorem walkG (r c : Int) (w : World) : Calls Try.prog 7 #[.int .i32 r, .int .u8 c] w (IsB true w) := by
  obtain ⟨i0, hi, hz0, hz1, hz2⟩ := info_parts info_i32
  have hcv := conv_byte c
  have hrs := rep_size c
  have hs1 := strOf1_size c
  obtain ⟨S, hS⟩ : ∃ S : ByteArray, (⟨(Lib.repeatL (strOfNums [c]).data.toList 10001).toArray⟩ : ByteArray) = S := ⟨_, rfl⟩
  rw [hS] at hrs
  have HS := Lib.hid hS
  clear hS
  go_enter Try.func7, Try.ntmps7
  go_wp2_with (first
    | (refine wpList_make_full _ rfl _ _ 22 rfl w.heap.size 21 i0 (.int .i32 0) 1 Try.underlying22 hi hz0 hz1 .i64 .i64 2001 2001 2001 rfl rfl rfl rfl (by rw [hz2]; omega) (by unfold maxLen; omega) (Nat.le_refl _) ?_; intro w1 hown1 hgrow1)
    | fail)
  rw [made0] at hown1
  have hB1 : Below w.heap.size w w1 := below_of_grown hgrow1
  refine (scalars_any [r] _ 1 1 _ rfl (by omega) (row_new' w1 _ _ _ rfl)).mono ?_
  rintro e w2 ⟨v, rfl, ho, hB2⟩
  have hk2 := (stepB hB2).block
  have hown2 : w2.ownsRow w.heap.size 21 1 (.slice (some ⟨w.heap.size, 0, none⟩) 2001 2001) 2001 (cn (List.replicate 2001 0)) := own_of_heap hown1 fun j hj => hk2 j (hown1.lt j hj).2
  have hW2 : Below w.heap.size w w2 := upB hB1 (stepB hB2)
  obtain ⟨A2, c2, rfl, _, _⟩ := own_form ho
  have hbl := (hown2.lt _ rfl).2
  clear ho hB2 hB1 hown1 hgrow1 hk2 hi hz0 hz1 hz2
  have hcg : w2.cell? ⟨w.heap.size, 7, none⟩ = some (.int .i32 0) := by
    rw [hown2.cellAt 7 (by omega), cn_get _ _ (by rw [List.length_replicate]; omega), List.getElem_replicate]; rfl
  have hfg := hown2.frozenAt 7
  cases hs : isSca r with
  | true =>
    have e : (scs [r]).length = 1 := by simp [scs, hs]
    have hn0 := isSca_nonneg hs
    have hrn : ((r.toNat : Nat) : Int) = r := Int.toNat_of_nonneg hn0.1
    have hown3 := (hown2.stored 7 (.int .i32 r)).1
    have hW3 := hW2.setCell (p := ⟨w.heap.size, 7, none⟩) (Nat.le_refl _) (.int .i32 r)
    rw [← hrn, cn_set, hrn] at hown3
    have HR : Hid (Row (w2.setCell ⟨w.heap.size, 7, none⟩ (.int .i32 r)) (w2.setCell ⟨w.heap.size, 7, none⟩ (.int .i32 r)).heap.size (some ⟨w.heap.size, 0, none⟩) (cn (((List.replicate 2001 0).set 7 r.toNat).take 2000))) := Lib.hid (row_take (Row.of_own hown3) 2000)
    have HS2 := Lib.hid (sca_set (sca_int hs))
    have HO := Lib.hid (oth_set r.toNat)
    have HL := Lib.hid (len_set r.toNat)
    obtain ⟨L, hL⟩ : ∃ L, ((List.replicate 2001 0).set 7 r.toNat).take 2000 = L := ⟨_, rfl⟩
    rw [hL] at HR HS2 HO HL
    rw [e]
    clear hL hown2 hown3 hW2 e hrn
    go_wp2_with fail
    refine (Encode_great _ 2001 2001 _ (by omega) (by omega)).mono ?_
    rintro e w3 ⟨rfl, hB3⟩
    have hr3 := Lib.hid (HR.out.go hB3)
    have hW4 := upB hW3 hB3
    clear hB3 hW3 HR
    go_wp2_with fail
    refine (Encode_any 12 sortOk12 (by omega) L _ 2000 2001 _ HL.out HO.out (by omega) HS2.out hr3.out).mono ?_
    rintro e w4 ⟨s4, rfl, _, hB4⟩
    have hW5 := upB hW4 hB4
    clear hB4 hW4 hr3
    go_wp2_with fail
    refine (Repeat_any _ 10001 _ (by omega) (by rw [hs1]; omega)).mono ?_
    rintro e w5 ⟨rfl, hB5⟩
    rw [HS.out]
    have hW6 := upB hW5 (stepB hB5)
    clear hB5 hW5
    go_wp2_with fail
    refine (Decode_great S _ (by omega) (by omega)).mono ?_
    rintro e w6 ⟨rfl, hB6⟩
    have hW7 := upB hW6 hB6
    clear hB6 hW6
    go_wp2_with fail
    refine (Decode_fun _ _ (by rw [ByteArray.size_extract]; omega)).mono ?_
    rintro e w7 (⟨o, A, c7, _, rfl, _, hB7⟩ | ⟨_, rfl, hB7⟩)
    all_goals
      have hW8 := upB hW7 hB7
      clear hB7 hW7
      go_wp2_with fail
      refine (awake_any _).mono ?_
      rintro e w8 ⟨rfl, hB8⟩
      go_wp2
      go_ret
      exact ⟨rfl, upB hW8 hB8⟩
  | false =>
    have e : (scs [r]).length = 0 := by simp [scs, hs]
    have HR : Hid (Row w2 w2.heap.size (some ⟨w.heap.size, 0, none⟩) (cn (List.replicate 2000 0))) := Lib.hid (by have := row_take (Row.of_own hown2) 2000; rw [zeros_take _ _ (by omega)] at this; exact this)
    have HS2 := Lib.hid (sca_zero 2000)
    have HO : Hid ((oth (List.replicate 2000 0) 2000).length ≤ 12) := Lib.hid (by rw [oth_zero]; simp)
    have HL : Hid ((List.replicate 2000 0).length = 2000) := Lib.hid List.length_replicate
    obtain ⟨L, hL⟩ : ∃ L, List.replicate 2000 0 = L := ⟨_, rfl⟩
    rw [hL] at HR HS2 HO HL
    have hW3 := hW2
    rw [e]
    clear hL hown2 hW2 e
    go_wp2_with fail
    refine (Encode_great _ 2001 2001 _ (by omega) (by omega)).mono ?_
    rintro e w3 ⟨rfl, hB3⟩
    have hr3 := Lib.hid (HR.out.go hB3)
    have hW4 := upB hW3 hB3
    clear hB3 hW3 HR
    go_wp2_with fail
    refine (Encode_any 12 sortOk12 (by omega) L _ 2000 2001 _ HL.out HO.out (by omega) HS2.out hr3.out).mono ?_
    rintro e w4 ⟨s4, rfl, _, hB4⟩
    have hW5 := upB hW4 hB4
    clear hB4 hW4 hr3
    go_wp2_with fail
    refine (Repeat_any _ 10001 _ (by omega) (by rw [hs1]; omega)).mono ?_
    rintro e w5 ⟨rfl, hB5⟩
    rw [HS.out]
    have hW6 := upB hW5 (stepB hB5)
    clear hB5 hW5
    go_wp2_with fail
    refine (Decode_great S _ (by omega) (by omega)).mono ?_
    rintro e w6 ⟨rfl, hB6⟩
    have hW7 := upB hW6 hB6
    clear hB6 hW6
    go_wp2_with fail
    refine (Decode_fun _ _ (by rw [ByteArray.size_extract]; omega)).mono ?_
    rintro e w7 (⟨o, A, c7, _, rfl, _, hB7⟩ | ⟨_, rfl, hB7⟩)
    all_goals
      have hW8 := upB hW7 hB7
      clear hB7 hW7
      go_wp2_with fail
      refine (awake_any _).mono ?_
      rintro e w8 ⟨rfl, hB8⟩
      go_wp2
      go_ret
      exact ⟨rfl, upB hW8 hB8⟩

theorem walk (a0 a1 : Int) (w : World) (_w0 : (Lit.int .i32 a0).wf = true) (_w1 : (Lit.int .u8 a1).wf = true) :
    Calls Try.prog 7 #[.int .i32 a0, .int .u8 a1] w (IsB true w) := walkG a0 a1 w

/-! From the walk to the given statement. -/
set_option linter.unusedVariables false
theorem own : ownKnob Try.prog.godebug = none := by kernel_rfl
theorem laidOut : laidOutB Try.prog = true := by kernel_rfl
set_option maxRecDepth 100000 in
theorem lifted (os : Os) (started : os.Started) (H : Type) (enc : TypeId × Value → H) :
    ReturnsInHanded {} Try.checked os 7 .any (Rows.punyGreatSpec.pre6 enc Try.prog Try.f7 Rows.punyGreatRow.domain false) (Rows.punyGreatSpec.post enc Try.prog Try.f7 false true false false) := by
  refine returnsInHanded_of_change (C := Try.checked) own started (by kernel_rfl) Try.func7
    (ChangeSpec.witness6 (enc := enc) (C := Try.checked) false ⟨#[], #[.int .i32 0, .int .u8 0], []⟩ 8 (by kernel_rfl) (by kernel_rfl) (by kernel_rfl) (by kernel_rfl)) ?_
  intro W base args ds gs before hval0 hW hcnd _
  have hval : ∀ (j : Nat) t v, Try.f7.params[j]? = some t → args[j]? = some v → Value.okWide Try.prog W .any base t v := hval0
  have hW' := hW
  obtain ⟨p, q, hA0, hV, rfl, hfz, hnd⟩ := hW
  have hA : DataW.TrodAll enc Try.prog W 0 (fun _ => true) true Try.f7.params.toList args.toList ds p := hA0
  rw [Try.params7] at hA hval
  obtain ⟨v0, vs0, d0, ds0, p0, q0, hargs, rfl, rfl, h0, r0⟩ := trodAll_cons hA
  obtain ⟨v1, vs1, d1, ds1, p1, q1, rfl, rfl, rfl, h1, r1⟩ := trodAll_cons r0
  obtain ⟨rfl, rfl, rfl⟩ := trodAll_nil r1
  obtain rfl : args = #[v0, v1] := by cases args; simp_all
  obtain ⟨rfl, rfl⟩ := trodVars_none hV
  obtain ⟨a0, rfl, rfl, rfl, w0⟩ := open_int Try.underlying21 (hval 0 21 v0 rfl rfl) h0
  obtain ⟨a1, rfl, rfl, rfl, w1⟩ := open_int Try.underlying5 (hval 1 5 v1 rfl rfl) h1
  clear hA0 hval0
  refine (walk a0 a1 W w0 w1).mono fun e W' ⟨he, bel⟩ => ?_
  subst he
  exact ⟨_, rfl, _, _, _, [], _, [], hW', trodAll_mk1 (shut_bool Try.underlying4 _), (trodAll_cons_mk (shut_int Try.underlying21 w0) (trodAll_cons_mk (shut_int Try.underlying5 w1) trodAll_mk0)), rfl, bel.frame _, fun h => by cases h⟩

theorem proved : Rows.PunyGreatSaid :=
  OpenClaim.holds_of_wide 7 Try.f7 rfl rfl rfl rfl rfl rfl rfl ⟨rfl, rfl, rfl, rfl, rfl⟩ rfl rfl rfl rfl rfl (by kernel_rfl) Try.func7 (by kernel_rfl)
    (of_decide_eq_true (by kernel_rfl)) (by unfold Func.isWrapper; first | (rw [if_pos (by decide +kernel)]; kernel_rfl) | (rw [if_neg (by decide +kernel)]; exact ⟨rfl, rfl⟩))
    (fun os started H enc _ => lifted os started H enc)
end Go.Proofs.Ytepnkmeheapcmaa.punyGreat
