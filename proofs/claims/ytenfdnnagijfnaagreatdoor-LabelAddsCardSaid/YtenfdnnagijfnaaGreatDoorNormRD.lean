import Derived.Test.YtenfdnnagijfnaaGreatDoorNormRB
import Derived.Test.YtenfdnnagijfnaaGreatDoorNormU
import Derived.RegionTactic
/-
  fasciaref05: step.
-/
namespace Go.Proofs.YtenfdnnagijfnaaGreatDoor
open Go.RowKit Norm

/-- what a code point is made of -/
def stp (r : Int) : List Int := if r = 9001 then [12296] else if r = 9002 then [12297] else match spl r with
  | some p => [p.1, p.2]
  | none => []
def StepOk (r : Int) (w : World) (e : Ending) (w' : World) : Prop := ∃ A c, e = .returned (.slice A (stp r).length c) ∧ Row w' w'.heap.size A (cl .i32 (stp r)) ∧ Below w.heap.size w w'
set_option maxRecDepth 100000 in
set_option maxHeartbeats 1000000 in
theorem refStep_any (r : Int) (w : World) (h0 : -2147483648 ≤ r ∧ r ≤ 2147483647) : Calls Tryz.prog 37 #[.int .i32 r] w (StepOk r w) := by
  have HP := Lib.hid refPairs_any
  by_cases h1 : r = 9001
  · subst h1
    go_enter Tryz.func37, Tryz.ntmps37
    go_wp2_with fail
    go_ret
    exact ⟨_, 1, rfl, row_new' w _ _ _ rfl, upA w _⟩
  · by_cases h2 : r = 9002
    · subst h2
      go_enter Tryz.func37, Tryz.ntmps37
      go_wp2_with fail
      go_ret
      exact ⟨_, 1, rfl, row_new' w _ _ _ rfl, upA w _⟩
    · have e0 : stp r = (match spl r with | some p => [p.1, p.2] | none => []) := by unfold stp; rw [if_neg h1, if_neg h2]
      by_cases h3 : 44032 ≤ r ∧ r ≤ 55203
      · obtain ⟨h3a, h3b⟩ := h3
        have hs : syl r = true := by unfold syl; simp; omega
        have m1 : (r - 44032).tmod 28 = (r - 44032) % 28 := Int.tmod_eq_emod_of_nonneg (by omega)
        have m2 : (r - 44032).tdiv 588 = (r - 44032) / 588 := Int.tdiv_eq_ediv_of_nonneg (by omega)
        have m3 : (r - 44032).tdiv 28 = (r - 44032) / 28 := Int.tdiv_eq_ediv_of_nonneg (by omega)
        have m4 : ((r - 44032) / 28).tmod 21 = (r - 44032) / 28 % 21 := Int.tmod_eq_emod_of_nonneg (by omega)
        by_cases h4 : 0 < (r - 44032) % 28
        · have HE : Hid (stp r = [r - (r - 44032) % 28, 4519 + (r - 44032) % 28]) := Lib.hid (by rw [e0, spl_syl hs]; unfold sylParts; rw [if_neg (by omega)])
          clear e0 hs
          go_enter Tryz.func37, Tryz.ntmps37
          go_wp2_with fail
          go_ret
          exact ⟨_, 2, by rw [HE.out]; rfl, by rw [HE.out]; exact row_new' w _ _ _ rfl, upA w _⟩
        · have HE : Hid (stp r = [4352 + (r - 44032) / 588, 4449 + (r - 44032) / 28 % 21]) := Lib.hid (by rw [e0, spl_syl hs]; unfold sylParts; rw [if_pos (by omega), show (r - 44032) / 588 = (r - 44032) / 28 / 21 from by omega])
          clear e0 hs
          go_enter Tryz.func37, Tryz.ntmps37
          go_wp2_with fail
          go_ret
          exact ⟨_, 2, by rw [HE.out]; rfl, by rw [HE.out]; exact row_new' w _ _ _ rfl, upA w _⟩
      · have hs : ¬ syl r = true := by unfold syl; simpa using fun h => by omega
        have HE : Hid (stp r = (match pairR r with | some p => [p.1, p.2] | none => [])) := Lib.hid (by rw [e0]; unfold spl; rw [if_neg hs])
        clear e0 hs
        go_enter Tryz.func37, Tryz.ntmps37
        go_upto_region 5 with fail
        go_cut [17] (fun s17 wx => s17 = .bool false ∧ wx = w)
        case first =>
          by_cases z : 44032 ≤ r
          · have z2 : ¬ r ≤ 55203 := fun h => h3 ⟨z, h⟩
            go_wp2_with fail
            go_meet
            exact ⟨by first | rfl | (simp; omega), rfl⟩
          · go_wp2_with fail
            go_meet
            exact ⟨by first | rfl | (simp; omega), rfl⟩
        case rest =>
          obtain ⟨rfl, hwc⟩ := hcut
          rw [hwc]
          clear hwc h3 h1 h2
          go_wp2_with (first | (go_at_call 35; refine (HP.out _).mono ?_; rintro e w1 ⟨rfl, hw1⟩) | fail)
          have hB1 : Below w.heap.size w w1 := by rw [hw1]; exact (Below.refl _ w).alloc (Nat.le_refl _) _
          have hg1 : w1.heap[w.heap.size]? = some (.cells PC 55 (0, 0)) := by rw [hw1]; exact heap_alloc_new w _
          have HW1 := Lib.hid hw1
          clear hw1
          go_loopg [5] 81 (fun m s5 wr => ∃ j : Nat, s5 = .int .i64 (j : Int) ∧ m = 81 - j ∧ j ≤ 81 ∧ Hid (∀ t, t < j → wh t ≠ r) ∧ wr = w1)
          case atStart => exact ⟨0, rfl, rfl, by omega, Lib.hid (fun t ht => absurd ht (by omega)), HW1.out.symm⟩
          case round =>
            obtain ⟨j, rfl, rfl, hj, HN, rfl⟩ := hrel
            by_cases hlt : j < 81
            · have hltz : (j : Int) < 81 := by omega
              obtain ⟨q0, q1, q2⟩ := pairs_cells j hlt
              have d0 : wr.cell? ⟨w.heap.size, j * 3, none⟩ = some (.int .i32 (wh j)) := by rw [Nat.mul_comm j 3, cell_of_row wr w.heap.size _ PC _ _ hg1]; exact q0
              have d1 : wr.cell? ⟨w.heap.size, j * 3 + 1, none⟩ = some (.int .i32 (p1 j)) := by rw [Nat.mul_comm j 3, cell_of_row wr w.heap.size _ PC _ _ hg1]; exact q1
              have d2 : wr.cell? ⟨w.heap.size, j * 3 + 2, none⟩ = some (.int .i32 (p2 j)) := by rw [Nat.mul_comm j 3, cell_of_row wr w.heap.size _ PC _ _ hg1]; exact q2
              have HPA := Lib.hid (pairR_at j hlt)
              have HNX : Hid (wh j ≠ r → ∀ t, t < j + 1 → wh t ≠ r) := Lib.hid (fun hne t ht => by
                rcases Nat.lt_or_ge t j with h | h
                · exact HN.out t h
                · obtain rfl : t = j := by omega
                  exact hne)
              clear q0 q1 q2
              generalize p1 j = x at d1 HPA
              generalize p2 j = y at d2 HPA
              generalize wh j = z at d0 HPA HNX
              by_cases hz : z = r
              · have hzb : (z == r) = true := by simp [hz]
                have HF : Hid (stp r = [x, y]) := Lib.hid (by rw [HE.out, ← hz, HPA.out])
                clear hz
                go_wp2_with fail
                go_region
                go_wp2_with fail
                go_ret
                exact ⟨_, 2, by rw [HF.out]; rfl, by rw [HF.out]; first | exact row_new' wr _ _ _ rfl | exact (row_new' wr _ _ _ rfl).drew | exact row_new' wr.drew _ _ _ rfl, by first | exact hB1.alloc hB1.size _ | exact (hB1.alloc hB1.size _).drew⟩
              · have hzb : (z == r) = false := by simp [hz]
                have HF := Lib.hid (HNX.out hz)
                go_wp2_with fail
                go_roundg (81 - (j + 1))
                case measure => omega
                case rel => exact ⟨j + 1, by go_num, rfl, by omega, HF, rfl⟩
            · obtain rfl : j = 81 := by omega
              have hltz : ¬ ((81 : Nat) : Int) < 81 := by omega
              have HF : Hid (stp r = []) := Lib.hid (by rw [HE.out, pairR_none HN.out])
              go_wp2_with fail
              go_ret
              exact ⟨none, 0, by rw [HF.out]; rfl, by rw [HF.out]; exact .inl rfl, hB1⟩
end Go.Proofs.YtenfdnnagijfnaaGreatDoor

/-
  fasciaref05: Split.
-/
namespace Go.Proofs.YtenfdnnagijfnaaGreatDoor
open Go.RowKit Norm

theorem refStep_row (r : Int) (l : List Int) (n : Nat) (w : World) (h0 : -2147483648 ≤ r ∧ r ≤ 2147483647) (h : stp r = l) (hn : l.length = n) : Calls Tryz.prog 37 #[.int .i32 r] w (RowN w n l) := by
  subst h
  subst hn
  exact refStep_any r w h0
theorem own_lit5 (w : World) (base : Nat) (e : TypeId) (v : Value) (hb : base ≤ w.heap.size) : (w.alloc (.cells #[v] e)).ownsRow base e 1 (.slice (some ⟨w.heap.size, 0, none⟩) 1 1) 1 [v] :=
  ⟨rfl, .inr ⟨w.heap.size, 1, #[v], rfl, hb, heap_alloc_new w _, Nat.le_refl _, by unfold maxLen; omega, rfl, rfl⟩⟩
set_option maxRecDepth 100000 in
set_option maxHeartbeats 1000000 in
theorem refSplit_k : ∀ k, k ≤ 1000 → ∀ r, ends k r → ∀ w : World, Calls Tryz.prog 18 #[.int .i32 r] w (MadeV w (fullN k r))
  | 0, _, _, h, _ => h.elim
  | k + 1, hk, r, h, w => by
    have ih := fun r h w => refSplit_k k (by omega) r h w
    obtain ⟨i0, hi, hz0, hz1, hz2⟩ := info_split info_int32
    unfold ends at h
    obtain ⟨q0, q1, h⟩ := h
    have one : ∀ z, ends k z → stp r = [z] → Calls Tryz.prog 18 #[.int .i32 r] w (MadeV w (fullN k z)) := fun z hz hs => by
      have HI := Lib.hid (fun w => ih z hz w)
      have HS := Lib.hid (fun w => refStep_row r [z] 1 w ⟨q0, q1⟩ hs rfl)
      generalize fullN k z = F at HI ⊢
      clear ih h hs hz
      go_enter Tryz.func18, Tryz.ntmps18
      go_wp2_with fail
      refine (HS.out _).mono ?_
      rintro e w1 ⟨A1, c1, rfl, hr1, hB1⟩
      obtain ⟨b1, o1, rfl, _, hc1⟩ := hr1.at_ (by simp)
      have d0 : w1.cell? ⟨b1, o1, none⟩ = some (.int .i32 z) := by have := hc1 0 (by simp); rw [Nat.add_zero] at this; exact this
      clear hc1 hr1
      go_wp2_with fail
      refine (HI.out _).mono ?_
      rintro e w2 ⟨A2, c2, rfl, ho2, hB2⟩
      go_wp2_with fail
      go_ret
      exact ⟨A2, c2, rfl, own_down ho2 hB1.size, upB hB1 hB2⟩
    unfold fullN
    by_cases h1 : r = 9001
    · rw [if_pos h1] at h ⊢
      exact one _ h (by unfold stp; rw [if_pos h1])
    · by_cases h2 : r = 9002
      · rw [if_neg h1, if_pos h2] at h ⊢
        exact one _ h (by unfold stp; rw [if_neg h1, if_pos h2])
      · rw [if_neg h1, if_neg h2] at h ⊢
        clear one
        cases hs : spl r with
        | none =>
          have HS := Lib.hid (fun w => refStep_row r [] 0 w ⟨q0, q1⟩ (by unfold stp; rw [if_neg h1, if_neg h2, hs]) rfl)
          clear ih h hs
          go_enter Tryz.func18, Tryz.ntmps18
          go_wp2_with fail
          refine (HS.out _).mono ?_
          rintro e w1 ⟨A1, c1, rfl, hr1, hB1⟩
          have hO := own_lit5 w1 w.heap.size 21 (.int .i32 r) hB1.size
          go_wp2_with fail
          go_ret
          exact ⟨_, 1, rfl, hO, hB1.alloc hB1.size _⟩
        | some p =>
          rw [hs] at h
          have HI := Lib.hid (fun w => ih p.1 h w)
          have HS := Lib.hid (fun w => refStep_row r [p.1, p.2] 2 w ⟨q0, q1⟩ (by unfold stp; rw [if_neg h1, if_neg h2, hs]) rfl)
          have hFl : (fullN k p.1).length ≤ 2000 := by have := fullN_len k p.1; omega
          obtain ⟨x, y⟩ := p
          dsimp only at HI HS hFl ⊢
          generalize fullN k x = F at HI hFl ⊢
          clear ih h hs
          go_enter Tryz.func18, Tryz.ntmps18
          go_wp2_with fail
          refine (HS.out _).mono ?_
          rintro e w1 ⟨A1, c1, rfl, hr1, hB1⟩
          obtain ⟨b1, o1, rfl, hb1, hc1⟩ := hr1.at_ (by simp)
          have d0 : w1.cell? ⟨b1, o1, none⟩ = some (.int .i32 x) := by have := hc1 0 (by simp); rw [Nat.add_zero] at this; exact this
          have d1 : w1.cell? ⟨b1, o1 + 1, none⟩ = some (.int .i32 y) := hc1 1 (by simp)
          clear hc1 hr1
          go_wp2_with fail
          refine (HI.out _).mono ?_
          rintro e w2 ⟨A2, c2, rfl, ho2, hB2⟩
          have e1 := (hB2.cell (p := ⟨b1, o1 + 1, none⟩) hb1).trans d1
          go_wp2_with (first | (at_builtin; refine wpList_append_row _ rfl _ _ 22 rfl w1.heap.size 21 i0 (.int .i32 0) 1 4 Tryz.underlying22 hi hz0 hz1 hz2 rfl (by decide) _ F.length (cl .i32 F) rfl (ho2.alloc _) _ _ 1 1 [.int .i32 y] rfl rfl (row_new' _ _ _ _ rfl) (by simp [Value.oneCell']) (by unfold maxLen; omega) (by omega) (hB2.alloc hB2.size _).size ?_; intro v3 w3 hO3 hg3; obtain ⟨A3, c3, hv3⟩ := own_shape hO3; subst hv3) | fail)
          go_ret
          have hB3 : Below w1.heap.size w1 w3 := (hB2.alloc hB2.size (.cells #[.int .i32 y] 21)).grown hg3 (hB2.alloc hB2.size _).size (fun j e => (ho2.lt j e).1)
          refine ⟨A3, c3, by rw [List.length_append]; rfl, ?_, upB hB1 hB3⟩
          rw [List.length_append, show cl .i32 (F ++ [y]) = cl .i32 F ++ [.int .i32 y] from by simp [cl]]
          exact own_down hO3 hB1.size
theorem refSplit_any (r : Int) (w : World) (h0 : -2147483648 ≤ r ∧ r ≤ 2147483647) : Calls Tryz.prog 18 #[.int .i32 r] w (MadeV w (full r)) := refSplit_k 4 (by omega) r (ends_any h0.1 h0.2) w
end Go.Proofs.YtenfdnnagijfnaaGreatDoor
