/-
  For any label (up to 100) that fails nothing with edges, any place, any code point: with a small letter put behind it fails nothing; with a hyphen ahead, or behind, it fails by edges; with a dot anywhere it fails; with a code point that may not be it fails (fascialaw07.LabelAdds answers true). No condition.
-/
import Derived.Test.YtenfdnnagijfnaaGreatDoorLabelL
import Derived.Test.YtenfdnnagijfnaaGreatDoorFrame
import Derived.Test.YtenfdnnagijfnaaGreatDoorTie
import Derived.Test.YtenfdnnagijfnaaGreatDoorCards
import Derived.ProofKit
import Derived.Lay
import Derived.Stop.Joined
import Derived.SevenTiedAt
namespace Go.Proofs.YtenfdnnagijfnaaGreatDoor.labelAdds
open Go.ChangeShapes Go.WideShapes Go.ChangeAt Go.RowKit Norm Remap

theorem in_c32 {zs : List Int} (h : ∀ n ∈ zs, (Lit.int .i32 n).wf = true) : C32 zs := fun x hx => wf32 (h x hx)
theorem ins_len (l : List Int) (r : Int) (k : Nat) (hk : k ≤ l.length) : (l.take k ++ r :: l.drop k).length = l.length + 1 := by
  rw [List.length_append, List.length_cons, List.length_take, List.length_drop]
  omega
theorem ins_32 {l : List Int} {r : Int} (k : Nat) (hl : C32 l) (hr : -2147483648 ≤ r ∧ r ≤ 2147483647) : C32 (l.take k ++ r :: l.drop k) := by
  intro x hx
  rcases List.mem_append.1 hx with h | h
  · exact hl x (List.mem_of_mem_take h)
  · rcases List.mem_cons.1 h with h | h
    · rw [h]; exact hr
    · exact hl x (List.mem_of_mem_drop h)
/-- what a label that fails nothing is -/
theorem good {l : List Int} (h : chk l true = 0) : nfc l = l ∧ (∃ y t, l = y :: t ∧ ccc y = 0) ∧ 46 ∉ l ∧ Ucd.g (Ucd.of l[0]!) 0 ≠ 4 ∧ ∀ r ∈ l, vd r = true := by
  obtain ⟨h0, h1, _, h4, h5, h6⟩ := chk_zero.1 h
  rw [vio0] at h0
  rw [vio1] at h1
  rw [vio4] at h4
  rw [vio5] at h5
  rw [vio6, List.any_eq_false] at h6
  have h0 := of_decide_eq_false h0
  have h5 := of_decide_eq_false h5
  refine ⟨of_decide_eq_true (by simpa using h1), ?_, of_decide_eq_false h4, h5, fun r hr => ?_⟩
  · cases l with
    | nil => exact absurd rfl h0
    | cons y t => exact ⟨y, t, rfl, no_mark h5⟩
  · have := h6 r hr
    cases hv : vd r with
    | true => rfl
    | false => rw [hv] at this; exact absurd rfl this
theorem add_ahead {l : List Int} (hC : C32 l) (h : chk l true = 0) : chk (45 :: l) true = 3 ∨ chk (45 :: l) true = 2 := by
  obtain ⟨h1, h2, _⟩ := good h
  have hn := nfc_put (x := 45) (by omega) (jn_dot (.inr rfl)) (A := []) (B := l) hC h2 h1
  rw [List.nil_append] at hn
  have v0 : vio (45 :: l) 0 = false := by rw [vio0]; simp
  have v1 : vio (45 :: l) 1 = false := by rw [vio1, decide_eq_true hn]; rfl
  have v3 : vio (45 :: l) 3 = true := by rw [vio3]; simp
  rw [chk_eq, v0, v1, v3]
  cases vio (45 :: l) 2 <;> simp
theorem add_behind (l : List Int) : chk (l ++ [45]) true ≠ 0 := fun h => by
  have v3 := (chk_zero.1 h).2.2.1 rfl
  have v3 := v3.2
  rw [vio3] at v3
  simp at v3
theorem add_letter {l : List Int} (h : chk l true = 0) : chk (l ++ [97]) false = 0 := by
  obtain ⟨h1, ⟨y, t, rfl, _⟩, h3, h4, h5⟩ := good h
  have hn : nfc ((y :: t) ++ [97]) = (y :: t) ++ [97] := by
    rw [nfc_parts (by omega), h1]
    congr 1
  refine chk_zero.2 ⟨by rw [vio0]; simp, by rw [vio1, decide_eq_true hn]; rfl, fun e => (by cases e), ?_, ?_, ?_⟩
  · rw [vio4]
    refine decide_eq_false fun hm => ?_
    rcases List.mem_append.1 hm with hm | hm
    · exact h3 hm
    · simp at hm
  · rw [vio5]
    exact decide_eq_false h4
  · rw [vio6, List.any_eq_false]
    intro r hr
    have hv : vd r = true := by
      rcases List.mem_append.1 hr with hr | hr
      · exact h5 r hr
      · rw [List.mem_singleton] at hr
        rw [hr]
        decide +kernel
    rw [hv]
    simp
theorem add_dot {l : List Int} (hC : C32 l) (h : chk l true = 0) (k : Nat) : chk (l.take k ++ 46 :: l.drop k) false = 6 := by
  obtain ⟨h1, h2, _⟩ := good h
  have e := List.take_append_drop k l
  have hn := nfc_put (x := 46) (by omega) (jn_dot (.inl rfl)) (A := l.take k) (B := l.drop k) (by rw [e]; exact hC) (by rw [e]; exact h2) (by rw [e]; exact h1)
  have v0 : vio (l.take k ++ 46 :: l.drop k) 0 = false := by rw [vio0]; simp
  have v1 : vio (l.take k ++ 46 :: l.drop k) 1 = false := by rw [vio1, decide_eq_true hn]; rfl
  have v4 : vio (l.take k ++ 46 :: l.drop k) 4 = true := by rw [vio4]; exact decide_eq_true (by simp)
  rw [chk_eq, v0, v1, v4]
  simp
theorem add_any {l : List Int} (h : chk l true = 0) (k : Nat) (r : Int) : (vd r = false → chk (l.take k ++ r :: l.drop k) false ≠ 0) ∧ (vd r = true → chk (l.take k ++ r :: l.drop k) false ≠ 5) ∧ (chk (l.take k ++ r :: l.drop k) false = 0 → nfc (l.take k ++ r :: l.drop k) = l.take k ++ r :: l.drop k) := by
  obtain ⟨_, _, _, _, h5⟩ := good h
  refine ⟨fun hv e => ?_, fun hv => ?_, fun e => ?_⟩
  · have h6 := (chk_zero.1 e).2.2.2.2.2
    rw [vio6, List.any_eq_false] at h6
    have := h6 r (by simp)
    rw [hv] at this
    exact this rfl
  · have h6 : vio (l.take k ++ r :: l.drop k) 6 = false := by
      rw [vio6, List.any_eq_false]
      intro x hx
      have hx2 : vd x = true := by
        rcases List.mem_append.1 hx with hm | hm
        · exact h5 x (List.mem_of_mem_take hm)
        · rcases List.mem_cons.1 hm with hm | hm
          · rw [hm]; exact hv
          · exact h5 x (List.mem_of_mem_drop hm)
      rw [hx2]
      simp
    rw [chk_eq, h6]
    generalize vio (l.take k ++ r :: l.drop k) 0 = a0
    generalize vio (l.take k ++ r :: l.drop k) 1 = a1
    generalize vio (l.take k ++ r :: l.drop k) 4 = a4
    generalize vio (l.take k ++ r :: l.drop k) 5 = a5
    cases a0 <;> cases a1 <;> cases a4 <;> cases a5 <;> simp
  · have h1 := (chk_zero.1 e).2.1
    rw [vio1] at h1
    exact of_decide_eq_true (by simpa using h1)
set_option maxRecDepth 100000 in
set_option maxHeartbeats 4000000 in
theorem walk (A : Option Addr) (n cap : Nat) (l : List Int) (at_ r : Int) (w : World) (hin : InRow .i32 w A n cap l) (ha0 : 0 ≤ at_) (ha1 : at_ ≤ 255) (hq0 : -2147483648 ≤ r) (hq1 : r ≤ 2147483647) : Calls Tryz.prog 11 #[.slice A n cap, .int .u8 at_, .int .i32 r] w fun e w' => e = .returned (.bool true) ∧ Below w.heap.size w w' := by
  obtain ⟨hlen, hcap, _, hrow, hwf⟩ := hin
  have HAW := Lib.hid awake7_any
  have hcl := in_c32 hwf
  have hXc0 : (w.alloc (.cells #[.slice A n cap] 22)).cell? ⟨w.heap.size, 0, none⟩ = some (.slice A n cap) := tab_cell w [.slice A n cap] 22 0
  have hXl0 : w.heap.size < (w.alloc (.cells #[.slice A n cap] 22)).heap.size := by simp
  have hB0 : Below w.heap.size w (w.alloc (.cells #[.slice A n cap] 22)) := upA w _
  have hr0' := hrow.up hB0
  have HL := Lib.hid hlen
  have HCL := Lib.hid hcl
  have HCAP := Lib.hid hcap
  have HK := Lib.hid (fun (W : World) (h : n ≤ 100) (hr : Row W W.heap.size A (cl .i32 l)) => Check_any l true A n cap W hlen (by omega) hcl hr)
  obtain ⟨x, hx⟩ : ∃ x, chk l true = x := ⟨_, rfl⟩
  have HX := Lib.hid hx
  rw [hx] at HK
  clear hwf hcl hlen hx hrow hcap
  go_enter Tryz.func11, Tryz.ntmps11
  go_upto_region 1 with fail
  generalize w.alloc (.cells #[.slice A n cap] 22) = w0 at hXc0 hXl0 hB0 hr0' ⊢
  obtain ⟨X, hX⟩ : ∃ X, w.heap.size = X := ⟨_, rfl⟩
  rw [hX] at hXc0 hXl0 ⊢
  clear hX
  by_cases h100 : 100 < n
  · have hz : (100 : Int) < (n : Int) := by omega
    go_wp2_with (first | (go_at_call 29; refine (HAW.out _).mono ?_; rintro e w90 ⟨rfl, hB90⟩) | fail)
    go_ret
    exact ⟨rfl, upB hB0 hB90⟩
  · have hz : ¬ (100 : Int) < (n : Int) := by omega
    by_cases hx0 : x = 0
    · subst hx0
      have HG := Lib.hid HX.out
      obtain ⟨k, hk⟩ : ∃ k : Nat, k = at_.toNat % (n + 1) := ⟨_, rfl⟩
      have hkn : k ≤ n := by have := Nat.mod_lt at_.toNat (show 0 < n + 1 by omega); omega
      have HKA : Hid (Int.tmod at_ ((n : Int) + 1) = (k : Int)) := Lib.hid (by
        have h1 : ((at_.toNat : Nat) : Int) = at_ := by omega
        have h2 : ((at_.toNat % (n + 1) : Nat) : Int) = at_ % ((n : Int) + 1) := by
          rw [show ((at_.toNat % (n + 1) : Nat) : Int) = ((at_.toNat : Nat) : Int) % ((n + 1 : Nat) : Int) from by first | exact Int.natCast_emod _ _ | exact Int.natCast_mod _ _ | rfl, h1]
          congr 1
        rw [Int.tmod_eq_emod_of_nonneg ha0, hk, h2])
      clear hk
      go_upto_region 3 with (first | (go_at_call 27; refine (HK.out _ (by omega) hr0').mono ?_; rintro e w1 ⟨rfl, hB1⟩) | fail)
      have hXc1 := box_up hXc0 hXl0 hB1
      have hXl1 := Nat.lt_of_lt_of_le hXl0 hB1.size
      have hr1 := hr0'.up hB1
      have hW1 := upB hB0 hB1
      clear hB1 hB0 hr0' hXc0 hXl0 HK
      go_cut [7] (fun s7 wx => s7 = .int .i64 (k : Int) ∧ wx = w1)
      case first =>
        have hka := HKA.out
        go_wp2_with fail
        go_meet
        exact ⟨by first | rfl | (rw [hka]) | simp [hka], rfl⟩
      case rest =>
        obtain ⟨rfl, hwc⟩ := hcut
        rw [hwc]
        clear hwc HKA
        obtain ⟨R1, hR1⟩ : ∃ R, 45 :: l = R := ⟨_, rfl⟩
        obtain ⟨R2, hR2⟩ : ∃ R, l ++ [45] = R := ⟨_, rfl⟩
        obtain ⟨R3, hR3⟩ : ∃ R, l ++ [97] = R := ⟨_, rfl⟩
        obtain ⟨R4, hR4⟩ : ∃ R, l.take k ++ 46 :: l.drop k = R := ⟨_, rfl⟩
        obtain ⟨R5, hR5⟩ : ∃ R, l.take k ++ r :: l.drop k = R := ⟨_, rfl⟩
        have hl := HL.out
        have E1 := Lib.hid (show l.take 0 ++ 45 :: l.drop 0 = R1 by rw [← hR1]; rfl)
        have E2 := Lib.hid (show l.take n ++ 45 :: l.drop n = R2 by rw [← hR2, List.take_of_length_le (by omega), List.drop_eq_nil_of_le (by omega)])
        have E3 := Lib.hid (show l.take n ++ 97 :: l.drop n = R3 by rw [← hR3, List.take_of_length_le (by omega), List.drop_eq_nil_of_le (by omega)])
        have E4 := Lib.hid hR4
        have E5 := Lib.hid hR5
        have L1 : R1.length ≤ 101 := by rw [← E1.out, ins_len l _ _ (by omega)]; omega
        have L2 : R2.length ≤ 101 := by rw [← E2.out, ins_len l _ _ (by omega)]; omega
        have L3 : R3.length ≤ 101 := by rw [← E3.out, ins_len l _ _ (by omega)]; omega
        have L4 : R4.length ≤ 101 := by rw [← E4.out, ins_len l _ _ (by omega)]; omega
        have L5 : R5.length ≤ 101 := by rw [← E5.out, ins_len l _ _ (by omega)]; omega
        have C1 := Lib.hid (show C32 R1 by rw [← E1.out]; exact ins_32 _ HCL.out (by omega))
        have C2 := Lib.hid (show C32 R2 by rw [← E2.out]; exact ins_32 _ HCL.out (by omega))
        have C3 := Lib.hid (show C32 R3 by rw [← E3.out]; exact ins_32 _ HCL.out (by omega))
        have C4 := Lib.hid (show C32 R4 by rw [← E4.out]; exact ins_32 _ HCL.out (by omega))
        have C5 := Lib.hid (show C32 R5 by rw [← E5.out]; exact ins_32 _ HCL.out ⟨hq0, hq1⟩)
        have X1 : Hid (chk R1 true = 3 ∨ chk R1 true = 2) := Lib.hid (by rw [← hR1]; exact add_ahead HCL.out HG.out)
        have X2 : Hid (chk R2 true ≠ 0) := Lib.hid (by rw [← hR2]; exact add_behind l)
        have X3 : Hid (chk R3 false = 0) := Lib.hid (by rw [← hR3]; exact add_letter HG.out)
        have X4 : Hid (chk R4 false = 6) := Lib.hid (by rw [← hR4]; exact add_dot HCL.out HG.out k)
        have X5 : Hid ((vd r = false → chk R5 false ≠ 0) ∧ (vd r = true → chk R5 false ≠ 5) ∧ (chk R5 false = 0 → nfc R5 = R5)) := Lib.hid (by rw [← hR5]; exact add_any HG.out k r)
        have HCD := Lib.hid (fun w => Code_any r w)
        obtain ⟨v, hv⟩ : ∃ v, vd r = v := ⟨_, rfl⟩
        rw [hv] at HCD X5
        obtain ⟨y2, hy2⟩ : ∃ y, chk R2 true = y := ⟨_, rfl⟩
        obtain ⟨y5, hy5⟩ : ∃ y, chk R5 false = y := ⟨_, rfl⟩
        rw [hy2] at X2
        rw [hy5] at X5
        have Y2 := Lib.hid hy2
        have Y5 := Lib.hid hy5
        have hy2n := X2.out
        have hy2b : (y2 == 0) = false := by simpa using hy2n
        clear hR1 hR2 hR3 hR4 hR5 hl hv hy2 hy5 hq0 hq1 X2 HG HCL
        go_upto_region 5 with fail
        go_cut [53] (fun s53 wx => s53 = .bool false ∧ Below w.heap.size w wx ∧ wx.cell? ⟨X, 0, none⟩ = some (.slice A n cap) ∧ X < wx.heap.size ∧ Row wx wx.heap.size A (cl .i32 l))
        case first =>
          rcases X1.out with hx1 | hx1
          · have HX1 := Lib.hid hx1
            clear hx1
            go_wp2_with fail
            refine (put_call l R1 A n cap X 45 0 _ HL.out (by omega) (by omega) HCAP.out hXc1 hXl1 hr1 E1.out).mono ?_
            rintro e w2 ⟨A2, c2, rfl, ho2, hB2⟩
            have hXc2 := box_up hXc1 hXl1 hB2
            have hXl2 := Nat.lt_of_lt_of_le hXl1 hB2.size
            have hr2 := hr1.up hB2
            have hW2 := upB hW1 hB2
            have rA_2 := Row.of_own ho2
            clear hXc1 hXl1 hr1 hW1 hB2 ho2
            go_wp2_with fail
            refine (Check_any R1 true _ _ _ _ rfl (by omega) C1.out rA_2).mono ?_
            rw [HX1.out]
            rintro e w3 ⟨rfl, hB3⟩
            have hXc3 := box_up hXc2 hXl2 hB3
            have hXl3 := Nat.lt_of_lt_of_le hXl2 hB3.size
            have hr3 := hr2.up hB3
            have hW3 := upB hW2 hB3
            clear hXc2 hXl2 hr2 hW2 hB3
            clear rA_2
            go_wp2_with fail
            refine (put_call l R2 A n cap X 45 n _ HL.out (by omega) (by omega) HCAP.out hXc3 hXl3 hr3 E2.out).mono ?_
            rintro e w4 ⟨A4, c4, rfl, ho4, hB4⟩
            have hXc4 := box_up hXc3 hXl3 hB4
            have hXl4 := Nat.lt_of_lt_of_le hXl3 hB4.size
            have hr4 := hr3.up hB4
            have hW4 := upB hW3 hB4
            have rC_4 := Row.of_own ho4
            clear hXc3 hXl3 hr3 hW3 hB4 ho4
            go_wp2_with fail
            refine (Check_any R2 true _ _ _ _ rfl (by omega) C2.out rC_4).mono ?_
            rw [Y2.out]
            rintro e w5 ⟨rfl, hB5⟩
            have hXc5 := box_up hXc4 hXl4 hB5
            have hXl5 := Nat.lt_of_lt_of_le hXl4 hB5.size
            have hr5 := hr4.up hB5
            have hW5 := upB hW4 hB5
            clear hXc4 hXl4 hr4 hW4 hB5
            clear rC_4
            go_wp2_with fail
            refine (put_call l R3 A n cap X 97 n _ HL.out (by omega) (by omega) HCAP.out hXc5 hXl5 hr5 E3.out).mono ?_
            rintro e w6 ⟨A6, c6, rfl, ho6, hB6⟩
            have hXc6 := box_up hXc5 hXl5 hB6
            have hXl6 := Nat.lt_of_lt_of_le hXl5 hB6.size
            have hr6 := hr5.up hB6
            have hW6 := upB hW5 hB6
            have rD_6 := Row.of_own ho6
            clear hXc5 hXl5 hr5 hW5 hB6 ho6
            go_wp2_with fail
            refine (Check_any R3 false _ _ _ _ rfl (by omega) C3.out rD_6).mono ?_
            rw [X3.out]
            rintro e w7 ⟨rfl, hB7⟩
            have hXc7 := box_up hXc6 hXl6 hB7
            have hXl7 := Nat.lt_of_lt_of_le hXl6 hB7.size
            have hr7 := hr6.up hB7
            have hW7 := upB hW6 hB7
            clear hXc6 hXl6 hr6 hW6 hB7
            clear rD_6
            go_wp2_with fail
            go_meet
            exact ⟨by first | rfl | simp, hW7, hXc7, hXl7, hr7⟩
          · have HX1 := Lib.hid hx1
            clear hx1
            go_wp2_with fail
            refine (put_call l R1 A n cap X 45 0 _ HL.out (by omega) (by omega) HCAP.out hXc1 hXl1 hr1 E1.out).mono ?_
            rintro e w2 ⟨A2, c2, rfl, ho2, hB2⟩
            have hXc2 := box_up hXc1 hXl1 hB2
            have hXl2 := Nat.lt_of_lt_of_le hXl1 hB2.size
            have hr2 := hr1.up hB2
            have hW2 := upB hW1 hB2
            have rA_2 := Row.of_own ho2
            clear hXc1 hXl1 hr1 hW1 hB2 ho2
            go_wp2_with fail
            refine (Check_any R1 true _ _ _ _ rfl (by omega) C1.out rA_2).mono ?_
            rw [HX1.out]
            rintro e w3 ⟨rfl, hB3⟩
            have hXc3 := box_up hXc2 hXl2 hB3
            have hXl3 := Nat.lt_of_lt_of_le hXl2 hB3.size
            have hr3 := hr2.up hB3
            have hW3 := upB hW2 hB3
            clear hXc2 hXl2 hr2 hW2 hB3
            clear rA_2
            go_wp2_with fail
            refine (put_call l R1 A n cap X 45 0 _ HL.out (by omega) (by omega) HCAP.out hXc3 hXl3 hr3 E1.out).mono ?_
            rintro e w4 ⟨A4, c4, rfl, ho4, hB4⟩
            have hXc4 := box_up hXc3 hXl3 hB4
            have hXl4 := Nat.lt_of_lt_of_le hXl3 hB4.size
            have hr4 := hr3.up hB4
            have hW4 := upB hW3 hB4
            have rB_4 := Row.of_own ho4
            clear hXc3 hXl3 hr3 hW3 hB4 ho4
            go_wp2_with fail
            refine (Check_any R1 true _ _ _ _ rfl (by omega) C1.out rB_4).mono ?_
            rw [HX1.out]
            rintro e w5 ⟨rfl, hB5⟩
            have hXc5 := box_up hXc4 hXl4 hB5
            have hXl5 := Nat.lt_of_lt_of_le hXl4 hB5.size
            have hr5 := hr4.up hB5
            have hW5 := upB hW4 hB5
            clear hXc4 hXl4 hr4 hW4 hB5
            clear rB_4
            go_wp2_with fail
            refine (put_call l R2 A n cap X 45 n _ HL.out (by omega) (by omega) HCAP.out hXc5 hXl5 hr5 E2.out).mono ?_
            rintro e w6 ⟨A6, c6, rfl, ho6, hB6⟩
            have hXc6 := box_up hXc5 hXl5 hB6
            have hXl6 := Nat.lt_of_lt_of_le hXl5 hB6.size
            have hr6 := hr5.up hB6
            have hW6 := upB hW5 hB6
            have rC_6 := Row.of_own ho6
            clear hXc5 hXl5 hr5 hW5 hB6 ho6
            go_wp2_with fail
            refine (Check_any R2 true _ _ _ _ rfl (by omega) C2.out rC_6).mono ?_
            rw [Y2.out]
            rintro e w7 ⟨rfl, hB7⟩
            have hXc7 := box_up hXc6 hXl6 hB7
            have hXl7 := Nat.lt_of_lt_of_le hXl6 hB7.size
            have hr7 := hr6.up hB7
            have hW7 := upB hW6 hB7
            clear hXc6 hXl6 hr6 hW6 hB7
            clear rC_6
            go_wp2_with fail
            refine (put_call l R3 A n cap X 97 n _ HL.out (by omega) (by omega) HCAP.out hXc7 hXl7 hr7 E3.out).mono ?_
            rintro e w8 ⟨A8, c8, rfl, ho8, hB8⟩
            have hXc8 := box_up hXc7 hXl7 hB8
            have hXl8 := Nat.lt_of_lt_of_le hXl7 hB8.size
            have hr8 := hr7.up hB8
            have hW8 := upB hW7 hB8
            have rD_8 := Row.of_own ho8
            clear hXc7 hXl7 hr7 hW7 hB8 ho8
            go_wp2_with fail
            refine (Check_any R3 false _ _ _ _ rfl (by omega) C3.out rD_8).mono ?_
            rw [X3.out]
            rintro e w9 ⟨rfl, hB9⟩
            have hXc9 := box_up hXc8 hXl8 hB9
            have hXl9 := Nat.lt_of_lt_of_le hXl8 hB9.size
            have hr9 := hr8.up hB9
            have hW9 := upB hW8 hB9
            clear hXc8 hXl8 hr8 hW8 hB9
            clear rD_8
            go_wp2_with fail
            go_meet
            exact ⟨by first | rfl | simp, hW9, hXc9, hXl9, hr9⟩
        case rest =>
          clear hW1 hXc1 hXl1 hr1
          obtain ⟨rfl, hW20, hXc20, hXl20, hr20⟩ := hcut
          generalize wc = w20 at hW20 hXc20 hXl20 hr20 ⊢
          clear X1 X3 Y2
          go_wp2_with fail
          refine (put_call l R4 A n cap X 46 k _ HL.out (by omega) hkn HCAP.out hXc20 hXl20 hr20 E4.out).mono ?_
          rintro e w21 ⟨A21, c21, rfl, ho21, hB21⟩
          have hXc21 := box_up hXc20 hXl20 hB21
          have hXl21 := Nat.lt_of_lt_of_le hXl20 hB21.size
          have hr21 := hr20.up hB21
          have hW21 := upB hW20 hB21
          have rE_21 := Row.of_own ho21
          clear hXc20 hXl20 hr20 hW20 hB21 ho21
          go_wp2_with fail
          refine (Check_any R4 false _ _ _ _ rfl (by omega) C4.out rE_21).mono ?_
          rw [X4.out]
          rintro e w22 ⟨rfl, hB22⟩
          have hXc22 := box_up hXc21 hXl21 hB22
          have hXl22 := Nat.lt_of_lt_of_le hXl21 hB22.size
          have hr22 := hr21.up hB22
          have hW22 := upB hW21 hB22
          clear hXc21 hXl21 hr21 hW21 hB22
          clear rE_21
          go_wp2_with fail
          refine (put_call l R5 A n cap X r k _ HL.out (by omega) hkn HCAP.out hXc22 hXl22 hr22 E5.out).mono ?_
          rintro e w23 ⟨A23, c23, rfl, ho23, hB23⟩
          have hXc23 := box_up hXc22 hXl22 hB23
          have hXl23 := Nat.lt_of_lt_of_le hXl22 hB23.size
          have hr23 := hr22.up hB23
          have hW23 := upB hW22 hB23
          have rF_23 := Row.of_own ho23
          clear hXc22 hXl22 hr22 hW22 hB23 ho23
          go_wp2_with fail
          refine (Check_any R5 false _ _ _ _ rfl (by omega) C5.out rF_23).mono ?_
          rw [Y5.out]
          rintro e w24 ⟨rfl, hB24⟩
          have hXc24 := box_up hXc23 hXl23 hB24
          have hXl24 := Nat.lt_of_lt_of_le hXl23 hB24.size
          have hr24 := hr23.up hB24
          have hW24 := upB hW23 hB24
          have rF_24 := rF_23.up hB24
          clear hXc23 hXl23 hr23 hW23 hB24 rF_23
          obtain ⟨x5a, x5b, x5c⟩ := X5.out
          cases v with
          | false =>
            have h0 : ¬ y5 = 0 := x5a rfl
            have h0b : (y5 == 0) = false := by simpa using h0
            clear x5a x5b x5c
            go_wp2_with fail
            refine (HCD.out _).mono ?_
            rintro e w25 ⟨rfl, hB25⟩
            have hXc25 := box_up hXc24 hXl24 hB25
            have hXl25 := Nat.lt_of_lt_of_le hXl24 hB25.size
            have hr25 := hr24.up hB25
            have hW25 := upB hW24 hB25
            clear hXc24 hXl24 hr24 hW24 hB25
            go_wp2_with fail
            refine (HCD.out _).mono ?_
            rintro e w26 ⟨rfl, hB26⟩
            have hXc26 := box_up hXc25 hXl25 hB26
            have hXl26 := Nat.lt_of_lt_of_le hXl25 hB26.size
            have hr26 := hr25.up hB26
            have hW26 := upB hW25 hB26
            clear hXc25 hXl25 hr25 hW25 hB26
            go_wp2_with fail
            refine (HAW.out _).mono ?_
            rintro e w90 ⟨rfl, hB90⟩
            go_wp2_with fail
            go_ret
            exact ⟨rfl, upB hW26 hB90⟩
          | true =>
            have h5 : ¬ y5 = 5 := x5b rfl
            have h5b : (y5 == 5) = false := by simpa using h5
            by_cases h0 : y5 = 0
            · have HNF := Lib.hid (x5c h0)
              subst h0
              clear x5a x5b x5c
              go_wp2_with fail
              refine (HCD.out _).mono ?_
              rintro e w25 ⟨rfl, hB25⟩
              have hXc25 := box_up hXc24 hXl24 hB25
              have hXl25 := Nat.lt_of_lt_of_le hXl24 hB25.size
              have hr25 := hr24.up hB25
              have hW25 := upB hW24 hB25
              have rF_25 := rF_24.up hB25
              clear hXc24 hXl24 hr24 hW24 hB25 rF_24
              go_wp2_with fail
              refine (HCD.out _).mono ?_
              rintro e w26 ⟨rfl, hB26⟩
              have hXc26 := box_up hXc25 hXl25 hB26
              have hXl26 := Nat.lt_of_lt_of_le hXl25 hB26.size
              have hr26 := hr25.up hB26
              have hW26 := upB hW25 hB26
              have rF_26 := rF_25.up hB26
              clear hXc25 hXl25 hr25 hW25 hB26 rF_25
              go_wp2_with fail
              refine (Is_q R5 true _ _ _ _ rfl (by omega) C5.out rF_26 (decide_eq_true HNF.out)).mono ?_
              rintro e w27 ⟨rfl, hB27⟩
              have hXc27 := box_up hXc26 hXl26 hB27
              have hXl27 := Nat.lt_of_lt_of_le hXl26 hB27.size
              have hr27 := hr26.up hB27
              have hW27 := upB hW26 hB27
              clear hXc26 hXl26 hr26 hW26 hB27
              go_wp2_with fail
              refine (HAW.out _).mono ?_
              rintro e w90 ⟨rfl, hB90⟩
              go_wp2_with fail
              go_ret
              exact ⟨rfl, upB hW27 hB90⟩
            · have h0b : (y5 == 0) = false := by simpa using h0
              clear x5a x5b x5c
              go_wp2_with fail
              refine (HCD.out _).mono ?_
              rintro e w25 ⟨rfl, hB25⟩
              have hXc25 := box_up hXc24 hXl24 hB25
              have hXl25 := Nat.lt_of_lt_of_le hXl24 hB25.size
              have hr25 := hr24.up hB25
              have hW25 := upB hW24 hB25
              clear hXc24 hXl24 hr24 hW24 hB25
              go_wp2_with fail
              refine (HCD.out _).mono ?_
              rintro e w26 ⟨rfl, hB26⟩
              have hXc26 := box_up hXc25 hXl25 hB26
              have hXl26 := Nat.lt_of_lt_of_le hXl25 hB26.size
              have hr26 := hr25.up hB26
              have hW26 := upB hW25 hB26
              clear hXc25 hXl25 hr25 hW25 hB26
              go_wp2_with fail
              refine (HAW.out _).mono ?_
              rintro e w90 ⟨rfl, hB90⟩
              go_wp2_with fail
              go_ret
              exact ⟨rfl, upB hW26 hB90⟩
    · have hxb : (x == 0) = false := by simpa using hx0
      go_wp2_with (first
        | (go_at_call 27; refine (HK.out _ (by omega) hr0').mono ?_; rintro e w1 ⟨rfl, hB1⟩)
        | (go_at_call 29; refine (HAW.out _).mono ?_; rintro e w90 ⟨rfl, hB90⟩) | fail)
      go_ret
      exact ⟨rfl, upB (upB hB0 hB1) hB90⟩

/-! From the walk to the given statement. -/
set_option linter.unusedVariables false
theorem own : ownKnob Tryz.prog.godebug = none := by kernel_rfl
theorem laidOut : laidOutB Tryz.prog = true := by kernel_rfl
set_option maxRecDepth 100000 in
theorem lifted (os : Os) (started : os.Started) (H : Type) (enc : TypeId × Value → H) :
    ReturnsInHanded {} Tryz.checked os 11 .any (fun w args => (Rows.labelAddsSpec.pre enc Tryz.prog Tryz.f11 [] false w args ∧ laidMetH Tryz.prog Rows.labelAddsRow.laid w) ∧ sizedMet enc Tryz.prog Tryz.f11 (OpenSpec.ofChange Rows.labelAddsSpec) false w args)
      (Rows.labelAddsSpec.post enc Tryz.prog Tryz.f11 false true false false) := by
  refine returnsInHanded_of_change_and (C := Tryz.checked) (X := fun w _ => laidMetH Tryz.prog Rows.labelAddsRow.laid w) (fun _ _ _ hh h => h.of_heap hh) own started (by kernel_rfl) Tryz.func11
    (ChangeSpec.witness_shaped (enc := enc) (C := Tryz.checked) (os := os) (X := fun w _ => laidMetH Tryz.prog Rows.labelAddsRow.laid w) false (World.laidAll Tryz.prog os Rows.labelAddsRow.laid) #[.slice none 0 0, .int .u8 0, .int .i32 0] 8 (World.laidAll_os _ _ _)
      (World.shaped_of_ZipB (by kernel_rfl) (by kernel_rfl)) (by kernel_rfl) (by kernel_rfl) (by kernel_rfl)
      (by rw [MakeChecks.laidMetH_plain _ _ _ (by kernel_rfl)]; exact laidMet_laidAll _ (by kernel_rfl) (by kernel_rfl))) ?_
  intro W base args ds gs before hval0 hW _ _ hL _
  have hval : ∀ (j : Nat) t v, Tryz.f11.params[j]? = some t → args[j]? = some v → Value.okWide Tryz.prog W .any base t v := hval0
  have hW' := hW
  obtain ⟨p, q, hA0, hV, rfl, _, _⟩ := hW
  have hA : DataW.TrodAll enc Tryz.prog W 0 (fun _ => true) true Tryz.f11.params.toList args.toList ds p := hA0
  rw [Tryz.params11] at hA hval
  obtain ⟨v0, vs0, d0, ds0, p0, q0, hargs, rfl, rfl, h0, r0⟩ := trodAll_cons hA
  obtain ⟨v1, vs1, d1, ds1, p1, q1, rfl, rfl, rfl, h1, r1⟩ := trodAll_cons r0
  obtain ⟨v2, vs2, d2, ds2, p2, q2, rfl, rfl, rfl, h2, r2⟩ := trodAll_cons r1
  obtain ⟨rfl, rfl, rfl⟩ := trodAll_nil r2
  obtain rfl : args = #[v0, v1, v2] := by cases args; simp_all
  obtain ⟨rfl, rfl⟩ := trodVars_none hV
  obtain ⟨a0, len0, cap0, rfl⟩ := okWide_slice Tryz.underlying22 (hval 0 22 v0 rfl rfl)
  have k0 := h0
  have lt0 : ∀ x ∈ p0, x.block < W.heap.size := by obtain ⟨m, hm⟩ := k0; exact DataW.trod_lt m _ _ _ hm
  obtain ⟨z0, w0⟩ := in_row Tryz.underlying22 Tryz.underlying21 (by kernel_rfl) h0
  obtain ⟨a1, rfl, rfl, rfl, w1⟩ := open_int Tryz.underlying5 (hval 1 5 v1 rfl rfl) h1
  have b1 : 0 ≤ a1 ∧ a1 ≤ 255 := by simpa [Lit.wf, IntKind.min, IntKind.max, IntKind.signed, IntKind.bits] using w1
  obtain ⟨a2, rfl, rfl, rfl, w2⟩ := open_int Tryz.underlying21 (hval 2 21 v2 rfl rfl) h2
  have b2 : -2147483648 ≤ a2 ∧ a2 ≤ 2147483647 := by simpa [Lit.wf, IntKind.min, IntKind.max, IntKind.signed, IntKind.bits] using w2
  clear hA0 hval0
  refine (walk a0 len0 cap0 z0 a1 a2 W w0 b1.1 b1.2 b2.1 b2.2).mono fun e W' ⟨he, bel⟩ => ?_
  subst he
  exact ⟨_, rfl, _, _, _, [], _, [], hW', trodAll_mk1 (shut_bool Tryz.underlying4 _), (trodAll_cons_mk (Below.trod laidOut (by kernel_rfl) (of_decide_eq_true (by kernel_rfl)) k0 bel lt0) (trodAll_cons_mk (shut_int Tryz.underlying5 w1) (trodAll_cons_mk (shut_int Tryz.underlying21 w2) trodAll_mk0))), rfl, bel.frame _, fun h => by cases h⟩

theorem row_holds : Rows.LabelAddsSaid :=
  OpenClaim.holds_of_wide 11 Tryz.f11 rfl rfl rfl rfl rfl rfl rfl ⟨rfl, rfl, rfl, rfl, rfl⟩ rfl rfl rfl rfl rfl (by kernel_rfl) Tryz.func11 (by kernel_rfl)
    (of_decide_eq_true (by kernel_rfl)) (by unfold Func.isWrapper; first | (rw [if_pos (by decide +kernel)]; kernel_rfl) | (rw [if_neg (by decide +kernel)]; exact ⟨rfl, rfl⟩))
    (fun os started H enc _ => lifted os started H enc)

theorem proved : Rows.LabelAddsCardSaid :=
  Claim7.holds_tied_plain_at .later [] [.data, .data, .data, .data, .sentinel, .sentinel, .pinned] true (true,"c2015b8c54e8a22a452c7ce42c33d13d8ec73b4500df7b5b90db19fb4ce13a18") true
    row_holds (fun _ h => by cases h) (by kernel_rfl) (fun _ h => by cases h) labelAdds_row_tie rfl ⟨rfl, rfl⟩ (by kernel_rfl) rfl
    (fun f fn hf hfn => by
      obtain rfl : f = 11 := Option.some.inj ((show Tryz.prog.funcNamed "fascia/fascialaw07.LabelAdds" = some 11 by kernel_rfl).symm.trans hf) |>.symm
      obtain rfl : fn = Tryz.f11 := (Option.some.inj (Tryz.func11.symm.trans hfn)).symm
      exact ⟨by kernel_rfl, fun j t ht => by
        rw [Tryz.params11] at ht
        have hm : t ∈ [22, 5, 21] := by simpa using Array.mem_of_getElem? ht
        have hall : ([22, 5, 21].all fun u => !Tryz.prog.wantsStandIn u) = true := by kernel_rfl
        exact (show Tryz.prog.wantsStandIn t = false by simpa using List.all_eq_true.1 hall t hm)⟩)
    (by kernel_rfl)
end Go.Proofs.YtenfdnnagijfnaaGreatDoor.labelAdds
