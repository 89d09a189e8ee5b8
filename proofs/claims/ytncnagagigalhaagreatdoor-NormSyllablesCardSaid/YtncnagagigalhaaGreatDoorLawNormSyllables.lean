/-
  For any syllable, any other one and any code point behind it: it is taken apart into two or three, and these make it again; unlike ones are unlike; what is neither of both makes none (fascialaw05.NormSyllables answers true). No condition.
-/
import Derived.Test.YtncnagagigalhaaGreatDoorNormV
import Derived.Deep.RegionHeld3
import Derived.Deep.DeepCutAuto
import Derived.Test.YtncnagagigalhaaGreatDoorFrame
import Derived.Test.YtncnagagigalhaaGreatDoorTie
import Derived.Test.YtncnagagigalhaaGreatDoorCards
import Derived.ProofKit
import Derived.Lay
import Derived.Stop.Joined
import Derived.SevenTiedAt
namespace Go.Proofs.YtncnagagigalhaaGreatDoor.normSyllables
open Go.ChangeShapes Go.WideShapes Go.ChangeAt Go.RowKit Norm

theorem cells_at {w : World} {b o : Nat} {l : List Int} (hc : ∀ k, k < (cl .i32 l).length → w.cell? ⟨b, o + k, none⟩ = (cl .i32 l)[k]?) (k : Nat) {x : Int} (hx : l[k]? = some x) : w.cell? ⟨b, o + k, none⟩ = some (.int .i32 x) := by
  have hk := (List.getElem?_eq_some_iff.1 hx).1
  rw [hc k (by simpa using hk), List.getElem?_map, hx]
  rfl
set_option maxRecDepth 100000 in
set_option maxHeartbeats 4000000 in
theorem walk (s t r : Int) (w : World) (hs : 0 ≤ s) (hs2 : s ≤ 65535) (ht : 0 ≤ t) (ht2 : t ≤ 65535) (hr : -2147483648 ≤ r) (hr2 : r ≤ 2147483647) : Calls Tryz.prog 6 #[.int .u16 s, .int .u16 t, .int .i32 r] w fun e w' => e = .returned (.bool true) ∧ Below w.heap.size w w' := by
  go_enter Tryz.func6, Tryz.ntmps6
  go_upto_region 2 with fail
  have hqb : 0 ≤ s % 11172 ∧ s % 11172 < 11172 := by omega
  obtain ⟨a, hA⟩ : ∃ a, 44032 + s % 11172 = a := ⟨_, rfl⟩
  obtain ⟨b, hB⟩ : ∃ b, 44032 + t % 11172 = b := ⟨_, rfl⟩
  have a0 : 44032 ≤ a := by omega
  have a1 : a < 55204 := by omega
  have b0 : 44032 ≤ b := by omega
  have b1 : b < 55204 := by omega
  have h28q : s % 11172 % 28 = (a - 44032) % 28 := by omega
  have htm : s.tmod 28 = (a - 44032) % 28 := by rw [Int.tmod_eq_emod_of_nonneg hs]; omega
  rw [hA, hB]
  have HINJ := Lib.hid (full_inj a0 a1 b0 b1)
  have HF := Lib.hid (nfc_full a0 a1)
  have HO := Lib.hid (nfc_one a0 a1)
  have HR1 := Lib.hid (runs_syl (a := a))
  have HRD : Hid (Runs 19 (dec (full a))) := Lib.hid (by rw [dec_full a0 a1]; exact runs_short (by have := dec1_len a; omega))
  have HM := Lib.hid (jn_more a0 a1 r)
  have hlb := full_len b
  obtain ⟨m, hm⟩ : ∃ m, (full b).length = m := ⟨_, rfl⟩
  have HSB := Lib.hid (fun w => Split_row b (full b) m w (by omega) rfl hm)
  have HM2 := Lib.hid hm
  obtain ⟨G, hG⟩ : ∃ G, full b = G := ⟨_, rfl⟩
  rw [hG] at HINJ HSB HM2 hlb hm
  rw [hm] at hlb
  have ha32 : -2147483648 ≤ a ∧ a ≤ 2147483647 := by omega
  clear hA hB hG hm b0 b1 ht ht2 hs hs2
  by_cases h28 : (a - 44032) % 28 = 0
  · have hq : s % 11172 % 28 = 0 := by omega
    have HQ := Lib.hid h28
    have hqt : s.tmod 28 = 0 := by omega
    have hqu : (s.tmod 28 == 0) = true := by simp [hqt]
    clear htm
    have HJ1 := Lib.hid (jn_LV2 a0 a1 h28)
    have HFA := Lib.hid (full_2 a0 a1 h28)
    rw [HFA.out] at HINJ HF HRD
    have hL := sL_in a0 a1
    have hV := sV_in a
    generalize sL a = L at hL HJ1 HINJ HF HRD HFA
    generalize sV a = V at hV HJ1 HINJ HF HRD HFA
    have hC : C32 [L, V] := by intro x hx; simp only [List.mem_cons, List.not_mem_nil, or_false] at hx; omega
    clear h28 h28q hqb a0 a1
    go_wp2_with fail
    refine (Split_row a [L, V] 2 _ ha32 HFA.out rfl).mono ?_
    rintro e w1 ⟨A1, c1, rfl, hr1, hW1⟩
    go_wp2_with fail
    refine (HSB.out _).mono ?_
    rintro e w2 ⟨A2, c2, rfl, hr2, hB2⟩
    have hx2 := hr1.up hB2
    have hW2 := upB hW1 hB2
    clear hr1 hB2 hW1 HSB HFA
    go_upto_region 3 with fail
    go_cut [53] (fun s53 wx => s53 = .bool false ∧ Row wx wx.heap.size A1 (cl .i32 [L, V]) ∧ Below w.heap.size w wx)
    case first =>
      have hl1 : ¬ (2 : Int) < 2 := by omega
      rcases Decidable.em (a = b) with hab | hab
      · have HE : Hid (decide ([L, V] = G) = true) := Lib.hid (by rw [HINJ.out]; simp [hab])
        have hbb : (a == b) = true := by simp [hab]
        have hbc : decide (a = b) = true := by simp [hab]
        clear hab HINJ
        go_wp2_with fail
        refine (Same_any [L, V] G _ _ 2 m _ _ _ rfl HM2.out (by omega) (by omega) hx2 hr2).mono ?_
        rw [HE.out]
        rintro e w3 ⟨rfl, hB3⟩
        have hx3 := hx2.up hB3
        have hW3 := upB hW2 hB3
        clear hB3 hW2 hx2 hr2 HE
        go_wp2_with fail
        go_meet
        exact ⟨by first | rfl | simp [hbb, hqt], hx3, hW3⟩
      · have HE : Hid (decide ([L, V] = G) = false) := Lib.hid (by rw [HINJ.out]; simp [hab])
        have hbb : (a == b) = false := by simp [hab]
        have hbc : decide (a = b) = false := by simp [hab]
        clear hab HINJ
        go_wp2_with fail
        refine (Same_any [L, V] G _ _ 2 m _ _ _ rfl HM2.out (by omega) (by omega) hx2 hr2).mono ?_
        rw [HE.out]
        rintro e w3 ⟨rfl, hB3⟩
        have hx3 := hx2.up hB3
        have hW3 := upB hW2 hB3
        clear hB3 hW2 hx2 hr2 HE
        go_wp2_with fail
        go_meet
        exact ⟨by first | rfl | simp [hbb, hqt], hx3, hW3⟩
    case rest =>
      obtain ⟨rfl, hx3, hW3⟩ := hcut
      generalize wc = w3 at hx3 hW3 ⊢
      clear hW2 hx2 hr2 HINJ
      go_upto_region 5 with fail
      obtain ⟨g1, o1, rfl, hg1, hc1⟩ := hx3.at_ (by simp)
      have k0 := cells_at hc1 0 (x := L) rfl
      have k1 := cells_at hc1 1 (x := V) rfl
      rw [Nat.add_zero] at k0
      clear hc1
      have HJJ := Lib.hid (fun w => Join_is L V _ w (by omega) (by omega) HJ1.out)
      go_region_held3 (fun w' => w'.cell? ⟨g1, o1, none⟩ = some (.int .i32 L) ∧ w'.cell? ⟨g1, o1 + 1, none⟩ = some (.int .i32 V)) (first | exact ⟨k0, k1⟩ | exact ⟨(hB4.cell (p := ⟨g1, o1, none⟩) hg1).trans k0, (hB4.cell (p := ⟨g1, o1 + 1, none⟩) hg1).trans k1⟩) (first
        | (go_at_call 10; refine (HJJ.out _).mono ?_; rintro e w4 ⟨rfl, hB4'⟩; have hB4 : Below w3.heap.size w3 w4 := (by first | exact hB4' | exact below_undrew hB4'))
        | fail)
      have hx4 := hx3.up hB4
      have hW4 := upB hW3 hB4
      clear hB4 hW3 hx3 k0 k1 HJJ hg1
      have hx5 := hx4
      have hW5 := hW4
      clear hW4 hx4
      go_wp2_with fail
      refine (NFC_row 19 stable19 [L, V] [a] _ 2 _ 1 _ rfl (by omega) hC hx5 HRD.out HF.out rfl).mono ?_
      rintro e w6 ⟨A6, c6, rfl, hr6, hB6⟩
      have hW6 := upB hW5 hB6
      clear hB6 hW5 hx5
      go_wp2_with fail
      refine (Same_any [a] [a] _ _ 1 1 _ _ _ rfl rfl (by omega) (by omega) (hr6.up (upA _ _)) (row_new' _ _ _ _ rfl)).mono ?_
      rw [decide_eq_true rfl]
      rintro e w7 ⟨rfl, hB7⟩
      have hW7 := upB hW6 (stepB hB7)
      clear hB7 hW6 hr6
      go_wp2_with fail
      refine (NFC_row 19 stable19 [a] [a] _ 1 _ 1 _ rfl (by omega) (by intro x hx; simp only [List.mem_singleton] at hx; omega) (row_new' _ _ _ _ rfl) HR1.out HO.out rfl).mono ?_
      rintro e w8 ⟨A8, c8, rfl, hr8, hB8⟩
      have hW8 := upB hW7 (stepB hB8)
      clear hB8 hW7
      go_wp2_with fail
      refine (Same_any [a] [a] _ _ 1 1 _ _ _ rfl rfl (by omega) (by omega) (hr8.up (upA _ _)) (row_new' _ _ _ _ rfl)).mono ?_
      rw [decide_eq_true rfl]
      rintro e w9 ⟨rfl, hB9⟩
      have hW9 := upB hW8 (stepB hB9)
      clear hB9 hW8 hr8
      go_wp2_with fail
      refine (Join_is a r _ _ ha32 ⟨hr, hr2⟩ rfl).mono ?_
      rw [HM.out]
      by_cases r1 : 4519 < r
      · by_cases r2 : r ≤ 4546
        · skip
          rw [show decide (_ ∧ 4519 < r ∧ r ≤ 4546) = true from decide_eq_true ⟨HQ.out, r1, r2⟩]
          rintro e wA ⟨rfl, hBA⟩
          have hWA := upB hW9 hBA
          clear hBA hW9
          go_wp2_with fail
          refine (awake_any _).mono ?_
          rintro e wB ⟨rfl, hBB⟩
          go_wp2_with fail
          go_ret
          exact ⟨by first | rfl | (simp; done) | (simp; omega), upB hWA hBB⟩
        · skip
          rw [show decide (_ ∧ 4519 < r ∧ r ≤ 4546) = false from decide_eq_false (fun h => r2 h.2.2)]
          rintro e wA ⟨rfl, hBA⟩
          have hWA := upB hW9 hBA
          clear hBA hW9
          go_wp2_with fail
          refine (awake_any _).mono ?_
          rintro e wB ⟨rfl, hBB⟩
          go_wp2_with fail
          go_ret
          exact ⟨by first | rfl | (simp; done) | (simp; omega), upB hWA hBB⟩
      · skip
        rw [show decide (_ ∧ 4519 < r ∧ r ≤ 4546) = false from decide_eq_false (fun h => r1 h.2.1)]
        rintro e wA ⟨rfl, hBA⟩
        have hWA := upB hW9 hBA
        clear hBA hW9
        go_wp2_with fail
        refine (awake_any _).mono ?_
        rintro e wB ⟨rfl, hBB⟩
        go_wp2_with fail
        go_ret
        exact ⟨by first | rfl | (simp; done) | (simp; omega), upB hWA hBB⟩
  · have hq : ¬ s % 11172 % 28 = 0 := by omega
    have HQ := Lib.hid h28
    have hqt : ¬ s.tmod 28 = 0 := by omega
    have hqu : (s.tmod 28 == 0) = false := by simp [hqt]
    clear htm
    have HJ1 := Lib.hid (jn_LV a0 a1)
    have HJ2 := Lib.hid (jn_LVT a0 a1 h28)
    have HFA := Lib.hid (full_3 a0 a1 h28)
    rw [HFA.out] at HINJ HF HRD
    have hL := sL_in a0 a1
    have hV := sV_in a
    have hT : 4520 ≤ sT a ∧ sT a < 4547 := by unfold sT; omega
    have h2b : -2147483648 ≤ a - (a - 44032) % 28 ∧ a - (a - 44032) % 28 ≤ 2147483647 := by omega
    generalize sT a = T at hT HJ2 HINJ HF HRD HFA
    generalize a - (a - 44032) % 28 = a2 at HJ1 HJ2 h2b
    generalize sL a = L at hL HJ1 HINJ HF HRD HFA
    generalize sV a = V at hV HJ1 HINJ HF HRD HFA
    have hC : C32 [L, V, T] := by intro x hx; simp only [List.mem_cons, List.not_mem_nil, or_false] at hx; omega
    clear h28 h28q hqb a0 a1
    go_wp2_with fail
    refine (Split_row a [L, V, T] 3 _ ha32 HFA.out rfl).mono ?_
    rintro e w1 ⟨A1, c1, rfl, hr1, hW1⟩
    go_wp2_with fail
    refine (HSB.out _).mono ?_
    rintro e w2 ⟨A2, c2, rfl, hr2, hB2⟩
    have hx2 := hr1.up hB2
    have hW2 := upB hW1 hB2
    clear hr1 hB2 hW1 HSB HFA
    go_upto_region 3 with fail
    go_cut [53] (fun s53 wx => s53 = .bool false ∧ Row wx wx.heap.size A1 (cl .i32 [L, V, T]) ∧ Below w.heap.size w wx)
    case first =>
      have hl1 : ¬ (3 : Int) < 2 := by omega
      rcases Decidable.em (a = b) with hab | hab
      · have HE : Hid (decide ([L, V, T] = G) = true) := Lib.hid (by rw [HINJ.out]; simp [hab])
        have hbb : (a == b) = true := by simp [hab]
        have hbc : decide (a = b) = true := by simp [hab]
        clear hab HINJ
        go_wp2_with fail
        refine (Same_any [L, V, T] G _ _ 3 m _ _ _ rfl HM2.out (by omega) (by omega) hx2 hr2).mono ?_
        rw [HE.out]
        rintro e w3 ⟨rfl, hB3⟩
        have hx3 := hx2.up hB3
        have hW3 := upB hW2 hB3
        clear hB3 hW2 hx2 hr2 HE
        go_wp2_with fail
        go_meet
        exact ⟨by first | rfl | simp [hbb, hqt], hx3, hW3⟩
      · have HE : Hid (decide ([L, V, T] = G) = false) := Lib.hid (by rw [HINJ.out]; simp [hab])
        have hbb : (a == b) = false := by simp [hab]
        have hbc : decide (a = b) = false := by simp [hab]
        clear hab HINJ
        go_wp2_with fail
        refine (Same_any [L, V, T] G _ _ 3 m _ _ _ rfl HM2.out (by omega) (by omega) hx2 hr2).mono ?_
        rw [HE.out]
        rintro e w3 ⟨rfl, hB3⟩
        have hx3 := hx2.up hB3
        have hW3 := upB hW2 hB3
        clear hB3 hW2 hx2 hr2 HE
        go_wp2_with fail
        go_meet
        exact ⟨by first | rfl | simp [hbb, hqt], hx3, hW3⟩
    case rest =>
      obtain ⟨rfl, hx3, hW3⟩ := hcut
      generalize wc = w3 at hx3 hW3 ⊢
      clear hW2 hx2 hr2 HINJ
      go_upto_region 5 with fail
      obtain ⟨g1, o1, rfl, hg1, hc1⟩ := hx3.at_ (by simp)
      have k0 := cells_at hc1 0 (x := L) rfl
      have k1 := cells_at hc1 1 (x := V) rfl
      rw [Nat.add_zero] at k0
      clear hc1
      have HJJ := Lib.hid (fun w => Join_is L V _ w (by omega) (by omega) HJ1.out)
      go_region_held3 (fun w' => w'.cell? ⟨g1, o1, none⟩ = some (.int .i32 L) ∧ w'.cell? ⟨g1, o1 + 1, none⟩ = some (.int .i32 V)) (first | exact ⟨k0, k1⟩ | exact ⟨(hB4.cell (p := ⟨g1, o1, none⟩) hg1).trans k0, (hB4.cell (p := ⟨g1, o1 + 1, none⟩) hg1).trans k1⟩) (first
        | (go_at_call 10; refine (HJJ.out _).mono ?_; rintro e w4 ⟨rfl, hB4'⟩; have hB4 : Below w3.heap.size w3 w4 := (by first | exact hB4' | exact below_undrew hB4'))
        | fail)
      have hx4 := hx3.up hB4
      have hW4 := upB hW3 hB4
      clear hB4 hW3 hx3 k0 k1 HJJ hg1
      obtain ⟨g2, o2, hgg, hg2, hc2⟩ := hx4.at_ (by simp)
      cases hgg
      have k2 := cells_at hc2 2 (x := T) rfl
      clear hc2
      go_wp2_with fail
      refine (Join_is a2 T _ _ h2b (by omega) HJ2.out).mono ?_
      rintro e w5 ⟨rfl, hB5⟩
      have hx5 := hx4.up hB5
      have hW5 := upB hW4 hB5
      clear hB5 hW4 hx4 k2
      go_wp2_with fail
      refine (NFC_row 19 stable19 [L, V, T] [a] _ 3 _ 1 _ rfl (by omega) hC hx5 HRD.out HF.out rfl).mono ?_
      rintro e w6 ⟨A6, c6, rfl, hr6, hB6⟩
      have hW6 := upB hW5 hB6
      clear hB6 hW5 hx5
      go_wp2_with fail
      refine (Same_any [a] [a] _ _ 1 1 _ _ _ rfl rfl (by omega) (by omega) (hr6.up (upA _ _)) (row_new' _ _ _ _ rfl)).mono ?_
      rw [decide_eq_true rfl]
      rintro e w7 ⟨rfl, hB7⟩
      have hW7 := upB hW6 (stepB hB7)
      clear hB7 hW6 hr6
      go_wp2_with fail
      refine (NFC_row 19 stable19 [a] [a] _ 1 _ 1 _ rfl (by omega) (by intro x hx; simp only [List.mem_singleton] at hx; omega) (row_new' _ _ _ _ rfl) HR1.out HO.out rfl).mono ?_
      rintro e w8 ⟨A8, c8, rfl, hr8, hB8⟩
      have hW8 := upB hW7 (stepB hB8)
      clear hB8 hW7
      go_wp2_with fail
      refine (Same_any [a] [a] _ _ 1 1 _ _ _ rfl rfl (by omega) (by omega) (hr8.up (upA _ _)) (row_new' _ _ _ _ rfl)).mono ?_
      rw [decide_eq_true rfl]
      rintro e w9 ⟨rfl, hB9⟩
      have hW9 := upB hW8 (stepB hB9)
      clear hB9 hW8 hr8
      go_wp2_with fail
      refine (Join_is a r _ _ ha32 ⟨hr, hr2⟩ rfl).mono ?_
      rw [HM.out]
      rw [show decide (_ ∧ 4519 < r ∧ r ≤ 4546) = false from decide_eq_false (fun h => HQ.out h.1)]
      rintro e wA ⟨rfl, hBA⟩
      have hWA := upB hW9 hBA
      clear hBA hW9
      go_wp2_with fail
      refine (awake_any _).mono ?_
      rintro e wB ⟨rfl, hBB⟩
      go_wp2_with fail
      go_ret
      exact ⟨by first | rfl | (simp; done) | (simp; omega), upB hWA hBB⟩

/-! From the walk to the given statement. -/
set_option linter.unusedVariables false
theorem own : ownKnob Tryz.prog.godebug = none := by kernel_rfl
theorem laidOut : laidOutB Tryz.prog = true := by kernel_rfl
set_option maxRecDepth 100000 in
theorem lifted (os : Os) (started : os.Started) (H : Type) (enc : TypeId × Value → H) :
    ReturnsInHanded {} Tryz.checked os 6 .any (fun w args => (Rows.normSyllablesSpec.pre enc Tryz.prog Tryz.f6 [] false w args ∧ laidMetH Tryz.prog Rows.normSyllablesRow.laid w) ∧ sizedMet enc Tryz.prog Tryz.f6 (OpenSpec.ofChange Rows.normSyllablesSpec) false w args)
      (Rows.normSyllablesSpec.post enc Tryz.prog Tryz.f6 false true false false) := by
  refine returnsInHanded_of_change_and (C := Tryz.checked) (X := fun w _ => laidMetH Tryz.prog Rows.normSyllablesRow.laid w) (fun _ _ _ hh h => h.of_heap hh) own started (by kernel_rfl) Tryz.func6
    (ChangeSpec.witness_shaped (enc := enc) (C := Tryz.checked) (os := os) (X := fun w _ => laidMetH Tryz.prog Rows.normSyllablesRow.laid w) false (World.laidAll Tryz.prog os Rows.normSyllablesRow.laid) #[.int .u16 0, .int .u16 0, .int .i32 0] 8 (World.laidAll_os _ _ _)
      (World.shaped_of_ZipB (by kernel_rfl) (by kernel_rfl)) (by kernel_rfl) (by kernel_rfl) (by kernel_rfl)
      (by rw [MakeChecks.laidMetH_plain _ _ _ (by kernel_rfl)]; exact laidMet_laidAll _ (by kernel_rfl) (by kernel_rfl))) ?_
  intro W base args ds gs before hval0 hW _ _ hL _
  have hval : ∀ (j : Nat) t v, Tryz.f6.params[j]? = some t → args[j]? = some v → Value.okWide Tryz.prog W .any base t v := hval0
  have hW' := hW
  obtain ⟨p, q, hA0, hV, rfl, _, _⟩ := hW
  have hA : DataW.TrodAll enc Tryz.prog W 0 (fun _ => true) true Tryz.f6.params.toList args.toList ds p := hA0
  rw [Tryz.params6] at hA hval
  obtain ⟨v0, vs0, d0, ds0, p0, q0, hargs, rfl, rfl, h0, r0⟩ := trodAll_cons hA
  obtain ⟨v1, vs1, d1, ds1, p1, q1, rfl, rfl, rfl, h1, r1⟩ := trodAll_cons r0
  obtain ⟨v2, vs2, d2, ds2, p2, q2, rfl, rfl, rfl, h2, r2⟩ := trodAll_cons r1
  obtain ⟨rfl, rfl, rfl⟩ := trodAll_nil r2
  obtain rfl : args = #[v0, v1, v2] := by cases args; simp_all
  obtain ⟨rfl, rfl⟩ := trodVars_none hV
  obtain ⟨a0, rfl, rfl, rfl, w0⟩ := open_int Tryz.underlying35 (hval 0 35 v0 rfl rfl) h0
  have b0 : 0 ≤ a0 ∧ a0 ≤ 65535 := by simpa [Lit.wf, IntKind.min, IntKind.max, IntKind.signed, IntKind.bits] using w0
  obtain ⟨a1, rfl, rfl, rfl, w1⟩ := open_int Tryz.underlying35 (hval 1 35 v1 rfl rfl) h1
  have b1 : 0 ≤ a1 ∧ a1 ≤ 65535 := by simpa [Lit.wf, IntKind.min, IntKind.max, IntKind.signed, IntKind.bits] using w1
  obtain ⟨a2, rfl, rfl, rfl, w2⟩ := open_int Tryz.underlying21 (hval 2 21 v2 rfl rfl) h2
  have b2 : -2147483648 ≤ a2 ∧ a2 ≤ 2147483647 := by simpa [Lit.wf, IntKind.min, IntKind.max, IntKind.signed, IntKind.bits] using w2
  clear hA0 hval0
  refine (walk a0 a1 a2 W b0.1 b0.2 b1.1 b1.2 b2.1 b2.2).mono fun e W' ⟨he, bel⟩ => ?_
  subst he
  exact ⟨_, rfl, _, _, _, [], _, [], hW', trodAll_mk1 (shut_bool Tryz.underlying4 _), (trodAll_cons_mk (shut_int Tryz.underlying35 w0) (trodAll_cons_mk (shut_int Tryz.underlying35 w1) (trodAll_cons_mk (shut_int Tryz.underlying21 w2) trodAll_mk0))), rfl, bel.frame _, fun h => by cases h⟩

theorem row_holds : Rows.NormSyllablesSaid :=
  OpenClaim.holds_of_wide 6 Tryz.f6 rfl rfl rfl rfl rfl rfl rfl ⟨rfl, rfl, rfl, rfl, rfl⟩ rfl rfl rfl rfl rfl (by kernel_rfl) Tryz.func6 (by kernel_rfl)
    (of_decide_eq_true (by kernel_rfl)) (by unfold Func.isWrapper; first | (rw [if_pos (by decide +kernel)]; kernel_rfl) | (rw [if_neg (by decide +kernel)]; exact ⟨rfl, rfl⟩))
    (fun os started H enc _ => lifted os started H enc)

theorem proved : Rows.NormSyllablesCardSaid :=
  Claim7.holds_tied_plain_at .later [] [.data, .data, .data, .data, .sentinel, .sentinel, .pinned] true (true,"42a97f228551bc89a256fe65bf60eb17b654701c6bd6ee727805ac1dfa6e97bd") true
    row_holds (fun _ h => by cases h) (by kernel_rfl) (fun _ h => by cases h) normSyllables_row_tie rfl ⟨rfl, rfl⟩ (by kernel_rfl) rfl
    (fun f fn hf hfn => by
      obtain rfl : f = 6 := Option.some.inj ((show Tryz.prog.funcNamed "fascia/fascialaw05.NormSyllables" = some 6 by kernel_rfl).symm.trans hf) |>.symm
      obtain rfl : fn = Tryz.f6 := (Option.some.inj (Tryz.func6.symm.trans hfn)).symm
      exact ⟨by kernel_rfl, fun j t ht => by
        rw [Tryz.params6] at ht
        have hm : t ∈ [35, 35, 21] := by simpa using Array.mem_of_getElem? ht
        have hall : ([35, 35, 21].all fun u => !Tryz.prog.wantsStandIn u) = true := by kernel_rfl
        exact (show Tryz.prog.wantsStandIn t = false by simpa using List.all_eq_true.1 hall t hm)⟩)
    (by kernel_rfl)
end Go.Proofs.YtncnagagigalhaaGreatDoor.normSyllables
