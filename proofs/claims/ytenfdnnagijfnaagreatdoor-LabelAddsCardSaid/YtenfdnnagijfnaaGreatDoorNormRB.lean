import Derived.Test.YtenfdnnagijfnaaGreatDoorNormK
import Derived.Test.YtenfdnnagijfnaaGreatDoorNormR
import Derived.Deep.DeepCutAuto
/-
  fasciaref05: the pairs, as the document's own answer lays them.
-/
namespace Go.Proofs.YtenfdnnagijfnaaGreatDoor
open Go.RowKit Norm

set_option maxRecDepth 100000 in
set_option maxHeartbeats 4000000 in
theorem refPairs_any (w : World) : Calls Tryz.prog 35 #[] w fun e w' => e = .returned (.slice (some ⟨w.heap.size, 0, none⟩) 81 81) ∧ w' = w.alloc (.cells PC 55) := by
  refine calls_of_wp Tryz.func35 rfl ?_
  refine wp_seq (wp_region_list (wpList_straight _ _ _ _ _ (show straight _ _ _ _ = some ({ tmps := #[.slice none 0 0, undef, undef, undef, undef, undef, undef, undef, undef, undef, undef, undef, undef, undef, undef, undef, undef, undef, undef, undef, undef, undef, undef, undef, undef, undef, undef, undef, undef, undef, undef, undef, undef, undef, undef, undef, undef, undef, undef, undef, undef, undef, undef, undef, undef, undef, undef, undef, undef, undef, undef, undef, undef, undef, undef, undef, undef, undef, undef, undef, undef, undef, undef, undef, undef, undef, undef, undef, undef, undef, undef, undef, undef, undef, undef, undef, undef, undef, undef, undef, undef, undef, undef], defers := [] }, w) from by kernel_rfl) ?_))
  refine wp_seq (wp_region_list (wpList_straight _ _ _ _ _ (show straight _ _ _ _ = some ({ tmps := #[.slice (some ⟨w.heap.size, 0, none⟩) 81 81, .agg #[.int .i32 192, .int .i32 65, .int .i32 768], .agg #[.int .i32 193, .int .i32 65, .int .i32 769], .agg #[.int .i32 194, .int .i32 65, .int .i32 770], .agg #[.int .i32 195, .int .i32 65, .int .i32 771], .agg #[.int .i32 196, .int .i32 65, .int .i32 776], .agg #[.int .i32 197, .int .i32 65, .int .i32 778], .agg #[.int .i32 199, .int .i32 67, .int .i32 807], .agg #[.int .i32 200, .int .i32 69, .int .i32 768], .agg #[.int .i32 201, .int .i32 69, .int .i32 769], .agg #[.int .i32 202, .int .i32 69, .int .i32 770], .agg #[.int .i32 203, .int .i32 69, .int .i32 776], .agg #[.int .i32 204, .int .i32 73, .int .i32 768], .agg #[.int .i32 205, .int .i32 73, .int .i32 769], .agg #[.int .i32 206, .int .i32 73, .int .i32 770], .agg #[.int .i32 207, .int .i32 73, .int .i32 776], .agg #[.int .i32 209, .int .i32 78, .int .i32 771], .agg #[.int .i32 210, .int .i32 79, .int .i32 768], .agg #[.int .i32 211, .int .i32 79, .int .i32 769], .agg #[.int .i32 212, .int .i32 79, .int .i32 770], .agg #[.int .i32 213, .int .i32 79, .int .i32 771], .agg #[.int .i32 214, .int .i32 79, .int .i32 776], .agg #[.int .i32 217, .int .i32 85, .int .i32 768], .agg #[.int .i32 218, .int .i32 85, .int .i32 769], .agg #[.int .i32 219, .int .i32 85, .int .i32 770], .agg #[.int .i32 220, .int .i32 85, .int .i32 776], .agg #[.int .i32 221, .int .i32 89, .int .i32 769], .agg #[.int .i32 224, .int .i32 97, .int .i32 768], .agg #[.int .i32 225, .int .i32 97, .int .i32 769], .agg #[.int .i32 226, .int .i32 97, .int .i32 770], .agg #[.int .i32 227, .int .i32 97, .int .i32 771], .agg #[.int .i32 228, .int .i32 97, .int .i32 776], .agg #[.int .i32 229, .int .i32 97, .int .i32 778], .agg #[.int .i32 231, .int .i32 99, .int .i32 807], .agg #[.int .i32 232, .int .i32 101, .int .i32 768], .agg #[.int .i32 233, .int .i32 101, .int .i32 769], .agg #[.int .i32 234, .int .i32 101, .int .i32 770], .agg #[.int .i32 235, .int .i32 101, .int .i32 776], .agg #[.int .i32 236, .int .i32 105, .int .i32 768], .agg #[.int .i32 237, .int .i32 105, .int .i32 769], .agg #[.int .i32 238, .int .i32 105, .int .i32 770], .agg #[.int .i32 239, .int .i32 105, .int .i32 776], .agg #[.int .i32 241, .int .i32 110, .int .i32 771], .agg #[.int .i32 242, .int .i32 111, .int .i32 768], .agg #[.int .i32 243, .int .i32 111, .int .i32 769], .agg #[.int .i32 244, .int .i32 111, .int .i32 770], .agg #[.int .i32 245, .int .i32 111, .int .i32 771], .agg #[.int .i32 246, .int .i32 111, .int .i32 776], .agg #[.int .i32 249, .int .i32 117, .int .i32 768], .agg #[.int .i32 250, .int .i32 117, .int .i32 769], .agg #[.int .i32 251, .int .i32 117, .int .i32 770], .agg #[.int .i32 252, .int .i32 117, .int .i32 776], .agg #[.int .i32 253, .int .i32 121, .int .i32 769], .agg #[.int .i32 255, .int .i32 121, .int .i32 776], .agg #[.int .i32 471, .int .i32 220, .int .i32 769], .agg #[.int .i32 472, .int .i32 252, .int .i32 769], .agg #[.int .i32 902, .int .i32 913, .int .i32 769], .agg #[.int .i32 904, .int .i32 917, .int .i32 769], .agg #[.int .i32 905, .int .i32 919, .int .i32 769], .agg #[.int .i32 906, .int .i32 921, .int .i32 769], .agg #[.int .i32 940, .int .i32 945, .int .i32 769], .agg #[.int .i32 941, .int .i32 949, .int .i32 769], .agg #[.int .i32 942, .int .i32 951, .int .i32 769], .agg #[.int .i32 943, .int .i32 953, .int .i32 769], .agg #[.int .i32 1025, .int .i32 1045, .int .i32 776], .agg #[.int .i32 1105, .int .i32 1077, .int .i32 776], .agg #[.int .i32 1570, .int .i32 1575, .int .i32 1619], .agg #[.int .i32 1571, .int .i32 1575, .int .i32 1620], .agg #[.int .i32 1572, .int .i32 1608, .int .i32 1620], .agg #[.int .i32 1573, .int .i32 1575, .int .i32 1621], .agg #[.int .i32 1574, .int .i32 1610, .int .i32 1620], .agg #[.int .i32 2345, .int .i32 2344, .int .i32 2364], .agg #[.int .i32 2353, .int .i32 2352, .int .i32 2364], .agg #[.int .i32 2356, .int .i32 2355, .int .i32 2364], .agg #[.int .i32 12364, .int .i32 12363, .int .i32 12441], .agg #[.int .i32 12366, .int .i32 12365, .int .i32 12441], .agg #[.int .i32 12368, .int .i32 12367, .int .i32 12441], .agg #[.int .i32 12370, .int .i32 12369, .int .i32 12441], .agg #[.int .i32 12372, .int .i32 12371, .int .i32 12441], .agg #[.int .i32 12460, .int .i32 12459, .int .i32 12441], .agg #[.int .i32 12462, .int .i32 12461, .int .i32 12441], .agg #[.int .i32 12464, .int .i32 12463, .int .i32 12441], .slice (some ⟨w.heap.size, 0, none⟩) 81 81], defers := [] }, w.alloc (.cells PC 55)) from by kernel_rfl) ?_))
  show Code.wp _ _ _ _ _
  refine wp_ret ?_
  refine bodyPost_ret (results_tmp rfl _ _ _) rfl ?_
  exact ⟨rfl, rfl⟩
end Go.Proofs.YtenfdnnagijfnaaGreatDoor

/-
  fasciaref05: Join.
-/
namespace Go.Proofs.YtenfdnnagijfnaaGreatDoor
open Go.RowKit Norm

theorem pj_succ {j : Nat} (hj : j < 81) (x y : Int) : pjN (j + 1) x y = if p1 j = x ∧ p2 j = y then (match pjN j x y with | some r => some r | none => some (wh j)) else pjN j x y := by
  unfold pjN
  rw [List.take_add_one, tabP_get hj, List.find?_append]
  by_cases h : p1 j = x ∧ p2 j = y
  · rw [if_pos h]
    cases hf : (tabP.take j).find? (fun t => t.2.1 == x && t.2.2 == y) with
    | some t => simp
    | none => simp [h.1, h.2]
  · rw [if_neg h]
    have : ([(wh j, p1 j, p2 j)] : List (Int × Int × Int)).find? (fun t => t.2.1 == x && t.2.2 == y) = none := by
      rw [List.find?_eq_none]
      intro t ht
      rw [List.mem_singleton] at ht
      subst ht
      simpa using h
    simp only [Option.toList_some, this, Option.or_none]
theorem pj_81 {j : Nat} (hj : j < 81) {x y r : Int} (e : pjN (j + 1) x y = some r) : pjN 81 x y = some r := by
  unfold pjN at e ⊢
  rw [Option.map_eq_some_iff] at e ⊢
  obtain ⟨t, ht, rfl⟩ := e
  refine ⟨t, ?_, rfl⟩
  have : tabP.take 81 = tabP.take (j + 1) ++ (tabP.take 81).drop (j + 1) := by
    conv => lhs; rw [← List.take_append_drop (j + 1) (tabP.take 81)]
    rw [List.take_take, Nat.min_eq_left (by omega)]
  rw [this, List.find?_append, ht]
  rfl
set_option maxRecDepth 100000 in
set_option maxHeartbeats 1000000 in
theorem refJoin_any (a b : Int) (w : World) (ha : -2147483648 ≤ a ∧ a ≤ 2147483647) (hb : -2147483648 ≤ b ∧ b ≤ 2147483647) : Calls Tryz.prog 15 #[.int .i32 a, .int .i32 b] w (Tells (jnV a b) w) := by
  have HP := Lib.hid refPairs_any
  go_enter Tryz.func15, Tryz.ntmps15
  go_upto_region 1 with fail
  obtain ⟨c1, hc1⟩ : ∃ c : Bool, c = decide (4352 ≤ a ∧ a < 4371 ∧ 4449 ≤ b ∧ b < 4470) := ⟨_, rfl⟩
  go_cut [21] (fun s21 wx => s21 = .bool c1 ∧ wx = w)
  case first =>
    by_cases z0 : 4352 ≤ a
    · skip
      by_cases z1 : a ≤ 4370
      · skip
        by_cases z2 : 4449 ≤ b
        · skip
          by_cases z3 : b ≤ 4469
          · skip
            obtain rfl : c1 = true := by rw [hc1]; exact decide_eq_true (by omega)
            clear hc1
            go_wp2_with fail
            go_meet
            exact ⟨rfl, rfl⟩
          · obtain rfl : c1 = false := by rw [hc1]; exact decide_eq_false (by omega)
            clear hc1
            go_wp2_with fail
            go_meet
            exact ⟨by first | rfl | (simp; omega), rfl⟩
        · obtain rfl : c1 = false := by rw [hc1]; exact decide_eq_false (by omega)
          clear hc1
          go_wp2_with fail
          go_meet
          exact ⟨by first | rfl | (simp; omega), rfl⟩
      · obtain rfl : c1 = false := by rw [hc1]; exact decide_eq_false (by omega)
        clear hc1
        go_wp2_with fail
        go_meet
        exact ⟨by first | rfl | (simp; omega), rfl⟩
    · obtain rfl : c1 = false := by rw [hc1]; exact decide_eq_false (by omega)
      clear hc1
      go_wp2_with fail
      go_meet
      exact ⟨by first | rfl | (simp; omega), rfl⟩
  case rest =>
    obtain ⟨rfl, hwc⟩ := hcut
    rw [hwc]
    clear hwc
    cases c1 with
    | true =>
      have hcc := of_decide_eq_true hc1.symm
      have HE : Hid (jnV a b = .tuple #[.int .i32 (44032 + ((a - 4352) * 21 + b - 4449) * 28), .bool true]) := Lib.hid (by
        unfold jnV jn sylJoin
        rw [if_pos hcc, show (a - 4352) * 21 + b - 4449 = (a - 4352) * 21 + (b - 4449) from by omega]
        rfl)
      clear hc1
      obtain ⟨z1, z2, z3, z4⟩ := hcc
      go_wp2_with fail
      go_ret2
      exact ⟨by rw [HE.out]; rfl, Below.refl _ _⟩
    | false =>
      have hcc := of_decide_eq_false hc1.symm
      clear hc1
      go_upto_region 3 with fail
      have htm : 44032 ≤ a → (a - 44032).tmod 28 = (a - 44032) % 28 := fun h => Int.tmod_eq_emod_of_nonneg (by omega)
      obtain ⟨c2, hc2⟩ : ∃ c : Bool, c = decide (44032 ≤ a ∧ a ≤ 55203 ∧ (a - 44032) % 28 = 0 ∧ 4520 ≤ b ∧ b < 4547) := ⟨_, rfl⟩
      go_cut [49] (fun s49 wx => s49 = .bool c2 ∧ wx = w)
      case first =>
        by_cases z0 : 44032 ≤ a
        · skip
          by_cases z1 : a ≤ 55203
          · skip
            by_cases z2 : (a - 44032) % 28 = 0
            · skip
              by_cases z3 : 4520 ≤ b
              · skip
                by_cases z4 : b ≤ 4546
                · skip
                  obtain rfl : c2 = true := by rw [hc2]; exact decide_eq_true (by omega)
                  clear hc2
                  go_wp2_with fail
                  go_meet
                  exact ⟨rfl, rfl⟩
                · obtain rfl : c2 = false := by rw [hc2]; exact decide_eq_false (by omega)
                  clear hc2
                  go_wp2_with fail
                  go_meet
                  exact ⟨by first | rfl | (simp; omega), rfl⟩
              · obtain rfl : c2 = false := by rw [hc2]; exact decide_eq_false (by omega)
                clear hc2
                go_wp2_with fail
                go_meet
                exact ⟨by first | rfl | (simp; omega), rfl⟩
            · obtain rfl : c2 = false := by rw [hc2]; exact decide_eq_false (by omega)
              clear hc2
              go_wp2_with fail
              go_meet
              exact ⟨by first | rfl | (simp; omega), rfl⟩
          · obtain rfl : c2 = false := by rw [hc2]; exact decide_eq_false (by omega)
            clear hc2
            go_wp2_with fail
            go_meet
            exact ⟨by first | rfl | (simp; omega), rfl⟩
        · obtain rfl : c2 = false := by rw [hc2]; exact decide_eq_false (by omega)
          clear hc2
          go_wp2_with fail
          go_meet
          exact ⟨by first | rfl | (simp; omega), rfl⟩
      case rest =>
        obtain ⟨rfl, hwc⟩ := hcut
        rw [hwc]
        clear hwc htm
        cases c2 with
        | true =>
          have hdd := of_decide_eq_true hc2.symm
          have HE : Hid (jnV a b = .tuple #[.int .i32 (a + b - 4519), .bool true]) := Lib.hid (by
            unfold jnV jn sylJoin
            rw [if_neg hcc, if_pos hdd]
            rfl)
          clear hc2
          obtain ⟨z1, z2, z3, z4, z5⟩ := hdd
          go_wp2_with fail
          go_ret2
          exact ⟨by rw [HE.out]; rfl, Below.refl _ _⟩
        | false =>
          have hdd := of_decide_eq_false hc2.symm
          have HE : Hid (jnV a b = .tuple #[.int .i32 ((pjN 81 a b).getD 0), .bool (pjN 81 a b).isSome]) := Lib.hid (by
            unfold jnV jn sylJoin
            rw [if_neg hcc, if_neg hdd])
          clear hc2 hcc hdd
          go_wp2_with (first | (go_at_call 35; refine (HP.out _).mono ?_; rintro e w1 ⟨rfl, hw1⟩) | fail)
          have hB1 : Below w.heap.size w w1 := by rw [hw1]; exact (Below.refl _ w).alloc (Nat.le_refl _) _
          have hg1 : w1.heap[w.heap.size]? = some (.cells PC 55 (0, 0)) := by rw [hw1]; exact heap_alloc_new w _
          have HW1 := Lib.hid hw1
          clear hw1
          go_loopg [7] 81 (fun m s7 wr => ∃ j : Nat, s7 = .int .i64 (j : Int) ∧ m = 81 - j ∧ j ≤ 81 ∧ Hid (pjN j a b = none) ∧ wr = w1)
          case atStart => exact ⟨0, rfl, rfl, by omega, Lib.hid rfl, HW1.out.symm⟩
          case round =>
            obtain ⟨j, rfl, rfl, hj, HN, rfl⟩ := hrel
            by_cases hlt : j < 81
            · have hltz : (j : Int) < 81 := by omega
              obtain ⟨q0, q1, q2⟩ := pairs_cells j hlt
              have d0 : wr.cell? ⟨w.heap.size, j * 3, none⟩ = some (.int .i32 (wh j)) := by rw [Nat.mul_comm j 3, cell_of_row wr w.heap.size _ PC _ _ hg1]; exact q0
              have d1 : wr.cell? ⟨w.heap.size, j * 3 + 1, none⟩ = some (.int .i32 (p1 j)) := by rw [Nat.mul_comm j 3, cell_of_row wr w.heap.size _ PC _ _ hg1]; exact q1
              have d2 : wr.cell? ⟨w.heap.size, j * 3 + 2, none⟩ = some (.int .i32 (p2 j)) := by rw [Nat.mul_comm j 3, cell_of_row wr w.heap.size _ PC _ _ hg1]; exact q2
              have HS := Lib.hid (pj_succ hlt a b)
              have HJ := Lib.hid (fun r => pj_81 (j := j) (x := a) (y := b) (r := r) hlt)
              clear q0 q1 q2
              generalize p1 j = x at d1 HS
              generalize p2 j = y at d2 HS
              generalize wh j = z at d0 HS
              by_cases hx : x = a
              · have hxb : (x == a) = true := by simp [hx]
                by_cases hy : y = b
                · have hyb : (y == b) = true := by simp [hy]
                  have HF : Hid (pjN 81 a b = some z) := Lib.hid (HJ.out z (by rw [HS.out, if_pos ⟨hx, hy⟩, HN.out]))
                  clear hx hy
                  go_wp2_with fail
                  go_ret2
                  exact ⟨by rw [HE.out, HF.out]; rfl, hB1⟩
                · have hyb : (y == b) = false := by simp [hy]
                  have HF : Hid (pjN (j + 1) a b = none) := Lib.hid (by rw [HS.out, if_neg (fun h => hy h.2), HN.out])
                  clear hx
                  go_wp2_with fail
                  go_roundg (81 - (j + 1))
                  case measure => omega
                  case rel => exact ⟨j + 1, by go_num, rfl, by omega, HF, rfl⟩
              · have hxb : (x == a) = false := by simp [hx]
                have HF : Hid (pjN (j + 1) a b = none) := Lib.hid (by rw [HS.out, if_neg (fun h => hx h.1), HN.out])
                go_wp2_with fail
                go_roundg (81 - (j + 1))
                case measure => omega
                case rel => exact ⟨j + 1, by go_num, rfl, by omega, HF, rfl⟩
            · obtain rfl : j = 81 := by omega
              have hltz : ¬ ((81 : Nat) : Int) < 81 := by omega
              go_wp2_with fail
              go_ret2
              exact ⟨by rw [HE.out, HN.out]; rfl, hB1⟩
end Go.Proofs.YtenfdnnagijfnaaGreatDoor
