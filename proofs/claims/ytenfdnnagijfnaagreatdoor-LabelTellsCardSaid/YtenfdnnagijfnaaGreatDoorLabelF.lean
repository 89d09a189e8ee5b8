/-
  fasciaref06.One, fasciaref07.Code, Is.
-/
import Derived.Test.YtenfdnnagijfnaaGreatDoorLabelE
import Derived.Test.YtenfdnnagijfnaaGreatDoorLabelD
namespace Go.Proofs.YtenfdnnagijfnaaGreatDoor
open Go.RowKit Norm Remap

def HowV (h : Int) (w : World) (e : Ending) (w' : World) : Prop := (∃ v, e = .returned (.tuple #[v, .int .u8 h])) ∧ Below w.heap.size w w'
theorem rows_at (w : World) : ∀ i, i < 21 → (w.alloc (.cells (cS shL).toArray 55)).cell? ⟨w.heap.size, i * 3, none⟩ = some (.int .i32 shL[i]!.1) ∧ (w.alloc (.cells (cS shL).toArray 55)).cell? ⟨w.heap.size, i * 3 + 1, none⟩ = some (.int .i32 shL[i]!.2.1) ∧ (w.alloc (.cells (cS shL).toArray 55)).cell? ⟨w.heap.size, i * 3 + 2, none⟩ = some (.int .i32 shL[i]!.2.2) := fun i hi => by
  obtain ⟨a, b, c⟩ := cS_get shL i hi
  exact ⟨(tab_cell _ _ _ _).trans a, (tab_cell _ _ _ _).trans b, (tab_cell _ _ _ _).trans c⟩
set_option maxRecDepth 100000 in
set_option maxHeartbeats 4000000 in
theorem refOne_any (r : Int) (w : World) (h0 : -2147483648 ≤ r ∧ r ≤ 2147483647) : Calls Tryz.prog 50 #[.int .i32 r] w (HowV (rhow r) w) := by
  have HT := Lib.hid (rows06_any w)
  have HRO := Lib.hid (fun w => RefOf_any r w h0.1 h0.2)
  have HBD := Lib.hid (fun w => bad_any r w)
  have HAM := Lib.hid (fun (w : World) => among_any r [173, 8203, 65038, 65039, 65279] (some ⟨w.heap.size, 0, none⟩) 5 5 (w.alloc (.cells #[.int .i32 173, .int .i32 8203, .int .i32 65038, .int .i32 65039, .int .i32 65279] 21)) rfl (by omega) (row_new' _ _ _ _ rfl))
  have HTC := Lib.hid (rows_at w)
  have hBT : Below w.heap.size w (w.alloc (.cells (cS shL).toArray 55)) := upA w _
  have hTl : w.heap.size < (w.alloc (.cells (cS shL).toArray 55)).heap.size := by simp
  obtain ⟨W, hW⟩ : ∃ W, w.alloc (.cells (cS shL).toArray 55) = W := ⟨_, rfl⟩
  unfold TabW at HT
  rw [hW] at HT HTC hBT hTl
  clear hW
  obtain ⟨B, hB⟩ : ∃ B, w.heap.size = B := ⟨_, rfl⟩
  rw [hB] at HT HTC hTl
  clear hB
  obtain ⟨n, hn⟩ : ∃ n : Nat, n = 21 := ⟨21, rfl⟩
  rw [← hn] at HT HTC
  have HN := Lib.hid hn
  have hn1 : n ≤ 100 := by omega
  clear hn
  go_enter Tryz.func50, Tryz.ntmps50
  go_wp2_with (first | (go_at_call 73; refine HT.out.mono ?_; rintro e w1 ⟨rfl, rfl⟩) | fail)
  go_loopg [5] n (fun m s5 wr => ∃ k : Nat, s5 = .int .i64 (k : Int) ∧ m = n - k ∧ k ≤ n ∧ Hid (∀ j, j < k → inS r shL[j]! = false) ∧ wr = w1)
  case atStart => exact ⟨0, rfl, rfl, Nat.zero_le _, Lib.hid (fun j hj => by omega), rfl⟩
  case round =>
    obtain ⟨k, rfl, rfl, hk, HNo, rfl⟩ := hrel
    clear HT
    by_cases hlt : k < n
    · have hltz : (k : Int) < (n : Int) := by omega
      obtain ⟨c0, c1, c2⟩ := HTC.out k hlt
      obtain ⟨p, hp⟩ : ∃ p, shL[k]! = p := ⟨_, rfl⟩
      have HP := Lib.hid hp
      rw [hp] at c0 c1 c2
      obtain ⟨x, y, z⟩ := p
      dsimp only at c0 c1 c2
      clear hp HRO HBD HAM
      by_cases h1 : x ≤ r
      · by_cases h2 : r ≤ y
        · have HQ : Hid (rhow r = 1) := Lib.hid (by
            unfold rhow
            rw [find_at (k := k) (by have := HN.out; show k < 21; omega) (by rw [HP.out]; exact decide_eq_true ⟨h1, h2⟩) HNo.out]
            rfl)
          have hk0 : (0 : Int) ≤ (k : Int) := by omega
          go_upto_region 6 with fail
          go_region
          all_goals go_wp2
          all_goals go_ret2
          all_goals (rw [HQ.out]; exact ⟨⟨_, rfl⟩, by first | exact hBT.alloc hBT.size _ | exact (hBT.alloc hBT.size _).drew | exact (hBT.drew).alloc hBT.size _⟩)
        · go_wp2_with fail
          go_roundg (n - (k + 1))
          case measure => omega
          case rel =>
            refine ⟨k + 1, by go_num, rfl, by omega, Lib.hid (fun j hj => ?_), rfl⟩
            by_cases hjk : j = k
            · subst hjk; rw [HP.out]; exact decide_eq_false fun h => by have := h.2; dsimp only at this; omega
            · exact HNo.out j (by omega)
      · go_wp2_with fail
        go_roundg (n - (k + 1))
        case measure => omega
        case rel =>
          refine ⟨k + 1, by go_num, rfl, by omega, Lib.hid (fun j hj => ?_), rfl⟩
          by_cases hjk : j = k
          · subst hjk; rw [HP.out]; exact decide_eq_false fun h => by have := h.1; dsimp only at this; omega
          · exact HNo.out j (by omega)
    · obtain rfl : k = n := by omega
      have HNF : Hid (shL.find? (inS r) = none) := Lib.hid (find_no (fun j hj => HNo.out j (by have := HN.out; have : j < 21 := hj; omega)))
      clear HNo HTC hTl
      have HH : Hid (rhow r = if r = 8230 then 1 else if decide (r ∈ [173, 8203, 65038, 65039, 65279]) = true then 2 else if 0 ≤ r ∧ r < 128 then 0 else if Ucd.g (Ucd.of r) 0 = 0 ∨ baL.any (inP r) = true then 3 else 0) := Lib.hid (by
        unfold rhow
        rw [HNF.out]
        simp)
      have HRC : ∀ (p : List Int) w, (Instr.field 32 (pv p) 0).run Tryz.prog w = .ok (.int .u8 (Ucd.g p 0)) w := fun p w => by kernel_rfl
      have HR := HRC (Ucd.of r)
      have hh := HH.out
      generalize Ucd.of r = p at HRO HR hh
      obtain ⟨y, hy⟩ : ∃ y, Ucd.g p 0 = y := ⟨_, rfl⟩
      rw [hy] at HR hh
      obtain ⟨qa, hqa⟩ : ∃ qa, decide (r ∈ [173, 8203, 65038, 65039, 65279]) = qa := ⟨_, rfl⟩
      rw [hqa] at HAM hh
      obtain ⟨qb, hqb⟩ : ∃ qb, baL.any (inP r) = qb := ⟨_, rfl⟩
      rw [hqb] at HBD hh
      have hhh := Lib.hid hh
      clear hh
      clear hy hqa hqb HRC HH HNF
      have hltz : ¬ ((k : Nat) : Int) < (k : Int) := by omega
      by_cases h8 : r = 8230
      · have he : Hid (rhow r = 1) := Lib.hid (by rw [hhh.out, if_pos h8])
        subst h8
        go_wp2_with fail
        go_ret2
        exact ⟨⟨_, by rw [he.out]; rfl⟩, hBT.alloc hBT.size _⟩
      · cases qa with
        | true =>
          have he : Hid (rhow r = 2) := Lib.hid (by rw [hhh.out, if_neg h8, if_pos rfl])
          go_wp2_with (first
            | (go_at_call 74; refine (HAM.out _).mono ?_; rintro e w2 ⟨rfl, hB2⟩)
            | (go_at_call 53; refine (HRO.out _).mono ?_; rintro e w3 ⟨rfl, hB3⟩)
            | (go_at_call 75; refine (HBD.out _).mono ?_; rintro e w4 ⟨rfl, hB4⟩)
            | fail)
          go_ret2
          exact ⟨⟨_, by rw [he.out]; rfl⟩, upB hBT (below_past _ hB2)⟩
        | false =>
          by_cases ha : 0 ≤ r
          · by_cases hb : r < 128
            · have he : Hid (rhow r = 0) := Lib.hid (by rw [hhh.out, if_neg h8, if_neg (by simp), if_pos ⟨ha, hb⟩])
              go_wp2_with (first
                | (go_at_call 74; refine (HAM.out _).mono ?_; rintro e w2 ⟨rfl, hB2⟩)
                | (go_at_call 53; refine (HRO.out _).mono ?_; rintro e w3 ⟨rfl, hB3⟩)
                | (go_at_call 75; refine (HBD.out _).mono ?_; rintro e w4 ⟨rfl, hB4⟩)
                | fail)
              go_ret2
              exact ⟨⟨_, by rw [he.out]; rfl⟩, (upB hBT (below_past _ hB2)).alloc (upB hBT (below_past _ hB2)).size _⟩
            · have hx0 : Hid (rhow r = if y = 0 ∨ qb = true then 3 else 0) := Lib.hid <| by rw [hhh.out, if_neg h8, if_neg (by simp), if_neg (fun h => hb h.2)]
              by_cases hy0 : y = 0
              · have he : Hid (rhow r = 3) := Lib.hid (by rw [hx0.out, if_pos (.inl hy0)])
                clear hx0
                subst hy0
                go_wp2_with (first
                    | (go_at_call 74; refine (HAM.out _).mono ?_; rintro e w2 ⟨rfl, hB2⟩)
                    | (go_at_call 53; refine (HRO.out _).mono ?_; rintro e w3 ⟨rfl, hB3⟩)
                    | (go_at_call 75; refine (HBD.out _).mono ?_; rintro e w4 ⟨rfl, hB4⟩)
                    | fail)
                go_ret2
                exact ⟨⟨_, by rw [he.out]; rfl⟩, upB (upB hBT (below_past _ hB2)) hB3⟩
              · have hy0b : (y == 0) = false := by simpa using hy0
                cases qb with
                | true =>
                  have he : Hid (rhow r = 3) := Lib.hid (by rw [hx0.out, if_pos (.inr rfl)])
                  clear hx0
                  go_wp2_with (first
                    | (go_at_call 74; refine (HAM.out _).mono ?_; rintro e w2 ⟨rfl, hB2⟩)
                    | (go_at_call 53; refine (HRO.out _).mono ?_; rintro e w3 ⟨rfl, hB3⟩)
                    | (go_at_call 75; refine (HBD.out _).mono ?_; rintro e w4 ⟨rfl, hB4⟩)
                    | fail)
                  go_ret2
                  exact ⟨⟨_, by rw [he.out]; rfl⟩, upB (upB (upB hBT (below_past _ hB2)) hB3) hB4⟩
                | false =>
                  have he : Hid (rhow r = 0) := Lib.hid (by rw [hx0.out, if_neg (by simpa using hy0)])
                  clear hx0
                  go_wp2_with (first
                    | (go_at_call 74; refine (HAM.out _).mono ?_; rintro e w2 ⟨rfl, hB2⟩)
                    | (go_at_call 53; refine (HRO.out _).mono ?_; rintro e w3 ⟨rfl, hB3⟩)
                    | (go_at_call 75; refine (HBD.out _).mono ?_; rintro e w4 ⟨rfl, hB4⟩)
                    | fail)
                  go_ret2
                  have hW := upB (upB (upB hBT (below_past _ hB2)) hB3) hB4
                  exact ⟨⟨_, by rw [he.out]; rfl⟩, hW.alloc hW.size _⟩
          · have hx0 : Hid (rhow r = if y = 0 ∨ qb = true then 3 else 0) := Lib.hid <| by rw [hhh.out, if_neg h8, if_neg (by simp), if_neg (fun h => ha h.1)]
            by_cases hy0 : y = 0
            · have he : Hid (rhow r = 3) := Lib.hid (by rw [hx0.out, if_pos (.inl hy0)])
              clear hx0
              subst hy0
              go_wp2_with (first
                  | (go_at_call 74; refine (HAM.out _).mono ?_; rintro e w2 ⟨rfl, hB2⟩)
                  | (go_at_call 53; refine (HRO.out _).mono ?_; rintro e w3 ⟨rfl, hB3⟩)
                  | (go_at_call 75; refine (HBD.out _).mono ?_; rintro e w4 ⟨rfl, hB4⟩)
                  | fail)
              go_ret2
              exact ⟨⟨_, by rw [he.out]; rfl⟩, upB (upB hBT (below_past _ hB2)) hB3⟩
            · have hy0b : (y == 0) = false := by simpa using hy0
              cases qb with
              | true =>
                have he : Hid (rhow r = 3) := Lib.hid (by rw [hx0.out, if_pos (.inr rfl)])
                clear hx0
                go_wp2_with (first
                  | (go_at_call 74; refine (HAM.out _).mono ?_; rintro e w2 ⟨rfl, hB2⟩)
                  | (go_at_call 53; refine (HRO.out _).mono ?_; rintro e w3 ⟨rfl, hB3⟩)
                  | (go_at_call 75; refine (HBD.out _).mono ?_; rintro e w4 ⟨rfl, hB4⟩)
                  | fail)
                go_ret2
                exact ⟨⟨_, by rw [he.out]; rfl⟩, upB (upB (upB hBT (below_past _ hB2)) hB3) hB4⟩
              | false =>
                have he : Hid (rhow r = 0) := Lib.hid (by rw [hx0.out, if_neg (by simpa using hy0)])
                clear hx0
                go_wp2_with (first
                  | (go_at_call 74; refine (HAM.out _).mono ?_; rintro e w2 ⟨rfl, hB2⟩)
                  | (go_at_call 53; refine (HRO.out _).mono ?_; rintro e w3 ⟨rfl, hB3⟩)
                  | (go_at_call 75; refine (HBD.out _).mono ?_; rintro e w4 ⟨rfl, hB4⟩)
                  | fail)
                go_ret2
                have hW := upB (upB (upB hBT (below_past _ hB2)) hB3) hB4
                exact ⟨⟨_, by rw [he.out]; rfl⟩, hW.alloc hW.size _⟩
end Go.Proofs.YtenfdnnagijfnaaGreatDoor
