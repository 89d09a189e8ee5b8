/-
  norm: compositions, join, Join.
-/
import Derived.Test.YtncnagagigalhaaGreatDoorNormJ
namespace Go.Proofs.YtncnagagigalhaaGreatDoor
open Go.RowKit Go.Maps Norm

theorem pc_part : ∀ j, j < 81 → PC.extract (j * 3) (j * 3 + 3) = #[.int .i32 (wh j), .int .i32 (p1 j), .int .i32 (p2 j)] := by
  have hl : PC.size = 243 := by kernel_rfl
  intro j hj
  obtain ⟨h0, h1, h2⟩ := pairs_cells j hj
  apply Array.ext'
  apply List.ext_getElem?
  intro i
  rw [Array.getElem?_toList, Array.getElem?_extract]
  rcases i with _ | _ | _ | i
  · rw [if_pos (by omega), show j * 3 + 0 = 3 * j from by omega, h0]; rfl
  · rw [if_pos (by omega), show j * 3 + (0 + 1) = 3 * j + 1 from by omega, h1]; rfl
  · rw [if_pos (by omega), show j * 3 + (0 + 1 + 1) = 3 * j + 2 from by omega, h2]; rfl
  · rw [if_neg (by omega)]; rfl
theorem run_mk (w : World) : (Instr.makeMap 42 (some (.int .i64 81))).run Tryz.prog w = .ok (.map (some w.heap.size)) (w.alloc (.map #[] 0)) := by kernel_rfl
theorem idx_pairs (w : World) (j : Nat) (hj : j < 81) : (Instr.index 65 (.agg PC) (.int .i64 (j : Int))).run Tryz.prog w = .ok (.agg #[.int .i32 (wh j), .int .i32 (p1 j), .int .i32 (p2 j)]) w := by

  simp [Instr.index, go_sem, pc_part j hj]
  intro h
  omega

set_option maxRecDepth 100000 in
set_option maxHeartbeats 2000000 in
theorem compositions_any (w : World) : Calls Tryz.prog 23 #[] w (fun e w' => e = .returned (.map (some w.heap.size)) ∧ PMap w' w.heap.size 81 ∧ Below w.heap.size w w') := by
  have HP := Lib.hid pairs_any
  have hmm := run_mk
  go_enter Tryz.func23, Tryz.ntmps23
  go_upto_region 2 with fail
  have hown0 : PMap (w.alloc (.map #[] 0)) w.heap.size 0 := ⟨_, World.ownsMap_made _ _ _ _, prs_nil⟩
  have hb0 : Below w.heap.size w (w.alloc (.map #[] 0)) := (Below.refl _ w).alloc (Nat.le_refl _) _
  obtain ⟨W1, hW1⟩ : ∃ W1, w.alloc (.map #[] 0) = W1 := ⟨_, rfl⟩
  rw [hW1] at hown0 hb0 ⊢
  obtain ⟨W2, hW2⟩ : ∃ W2, W1.alloc (.cells PC 65) = W2 := ⟨_, rfl⟩
  have hb2 : Below W1.heap.size W1 W2 := by rw [← hW2]; exact (Below.refl _ W1).alloc (Nat.le_refl _) _
  refine wp_region_list (wpList_callTo rfl _ rfl 39 #[] (by kernel_rfl) (.agg PC) W2 (by rw [← hW2]; exact HP.out W1) ?_)
  clear hW2
  go_wp2_with fail
  go_loopw [6] (fun s6 wr => ∃ j : Nat, s6 = .int .i64 (j : Int) ∧ j ≤ 81 ∧ Below w.heap.size w wr ∧ PMap wr w.heap.size j) (fun s6 _ => 81 - (intOf s6).toNat)
  case atStart => exact ⟨0, rfl, by omega, hb0.trans (hb2.mono hb0.size), hown0.below hb2⟩
  case round =>
    obtain ⟨j, rfl, hj, hB, hM⟩ := hrel
    by_cases hlt : j < 81
    · have hltz : (j : Int) < 81 := by omega
      have HI := idx_pairs wr j hlt
      obtain ⟨D, hD, hP⟩ := hM
      have HP2 := Lib.hid (prs_step hP hlt)
      obtain ⟨w1, w2, w3⟩ := wf_p j hlt
      have hk := key_parts (p1 j) (p2 j) w1 w2
      have hD2 := hD.alloc (.cells #[.int .i32 (wh j), .int .i32 (p1 j), .int .i32 (p2 j)] 64)
      go_wp2_with (first | (at_mapUpdate; refine wpList_mapUpdate_own _ rfl _ _ _ 42 rfl 45 21 (Keyed.of_law lawP) Tryz.underlying42 _ w.heap.size j _ rfl hD2 (by unfold maxLen; omega) _ _ _ rfl rfl hk _ [] (plainElem_int Tryz.underlying21 w3) ?_; intro w4 hown4 hg4) | fail)
      go_roundw
      case rel => exact ⟨j + 1, by go_num, by omega, hB.grown ((World.grownBy_alloc wr _ (some w.heap.size)).trans hg4) hB.size (fun j hj => by cases hj; exact Nat.le_refl _), _, hown4, HP2.out⟩
      case measure => simp [intOf]; omega
    · obtain rfl : j = 81 := by omega
      have hltz : ¬ ((81 : Nat) : Int) < 81 := by omega
      go_wp2_with fail
      go_ret
      exact ⟨rfl, hM, hB⟩

theorem wf32 {a : Int} (h : (Lit.int .i32 a).wf = true) : -2147483648 ≤ a ∧ a ≤ 2147483647 := by
  simp [Lit.wf, IntKind.min, IntKind.max, IntKind.bits, IntKind.signed] at h
  omega
theorem below_mapKept {H : Type} {P : Program} {k : TypeId} {R : Value → Option (DataW H × List MemPlace)} {w w1 : World} {b n : Nat} {D : DataW H} (h : w.ownsMap P k R b n D) (hB : Below w.heap.size w w1) : w1.ownsMap P k R b n D :=
  h.kept (row := none) ⟨hB.os, hB.tape, hB.output, hB.size, fun j hj _ => hB.block j hj⟩ (by simp)
def jnV (a b : Int) : Value := .tuple #[.int .i32 ((jn a b).getD 0), .bool (jn a b).isSome]
set_option maxRecDepth 100000 in
set_option maxHeartbeats 2000000 in
theorem joinP_any (m : Nat) (a b : Int) (w : World) (hm : PMap w m 81) (ha : (Lit.int .i32 a).wf = true) (hb : (Lit.int .i32 b).wf = true) : Calls Tryz.prog 22 #[.map (some m), .agg #[.int .i32 a, .int .i32 b]] w (Tells (jnV a b) w) := by
  have HJ := Lib.hid (fun w => joinSyllable_any a b w (wf32 ha).1 (wf32 ha).2 (wf32 hb).1 (wf32 hb).2)
  cases hs : sylJoin a b with
  | some r =>
    have HV : Hid (sylJ (a, b) = .tuple #[.int .i32 r, .bool true]) := Lib.hid (by unfold sylJ; simp only [hs])
    have HE : Hid (jnV a b = .tuple #[.int .i32 r, .bool true]) := Lib.hid (by unfold jnV jn; simp only [hs]; rfl)
    clear hs
    go_enter Tryz.func22, Tryz.ntmps22
    go_wp2_with (first | (go_at_call 38; refine (HJ.out _).mono ?_; rw [HV.out]; rintro e w4 ⟨rfl, hb4⟩) | fail)
    go_ret2
    exact ⟨by rw [HE.out]; rfl, ((Below.refl _ w).alloc (Nat.le_refl _) _).trans (hb4.mono (by show w.heap.size ≤ (w.heap.push _).size; rw [Array.size_push]; exact Nat.le_succ _))⟩
  | none =>
    have HV : Hid (sylJ (a, b) = .tuple #[.int .i32 0, .bool false]) := Lib.hid (by unfold sylJ; simp only [hs])
    have HE : Hid (jnV a b = .tuple #[.int .i32 ((pjN 81 a b).getD 0), .bool (pjN 81 a b).isSome]) := Lib.hid (by unfold jnV jn; simp only [hs])
    clear hs
    obtain ⟨D, hD, hP⟩ := hm
    obtain ⟨hat, hhas⟩ := hP.2 a b ha hb
    have HAT := Lib.hid hat
    have HHAS := Lib.hid hhas
    clear hat hhas
    have hk := key_parts a b ha hb
    have hD1 := hD.alloc (.cells #[.int .i32 a, .int .i32 b] 45)
    obtain ⟨W1, hW1⟩ : ∃ W1, w.alloc (.cells #[.int .i32 a, .int .i32 b] 45) = W1 := ⟨_, rfl⟩
    have hb1 : Below w.heap.size w W1 := by rw [← hW1]; exact (Below.refl _ w).alloc (Nat.le_refl _) _
    have hs1 : w.heap.size < W1.heap.size := by rw [← hW1]; show _ < (w.heap.push _).size; simp
    have hg1 : W1.heap[w.heap.size]? = some (.cells #[.int .i32 a, .int .i32 b] 45 (0, 0)) := by rw [← hW1]; exact heap_alloc_new w _
    rw [hW1] at hD1
    go_enter Tryz.func22, Tryz.ntmps22
    go_upto_region 1 with fail
    obtain ⟨c0, c1, _, _⟩ := box_parts hg1
    go_wp2_with (first | (go_at_call 38; refine (HJ.out _).mono ?_; rw [HV.out]; rintro e w4 ⟨rfl, hb4⟩; have hg4 := (hb4.block _ hs1).trans hg1; obtain ⟨c04, c14, _, _⟩ := box_parts hg4; have hD4 := below_mapKept hD1 hb4) | (at_lookup; refine wpList_lookup_own_ok_int _ rfl _ _ 42 rfl 45 21 .i32 (Keyed.of_law lawP) Tryz.underlying42 Tryz.underlying21 (zeroR _) m _ D rfl hD4 _ _ rfl hk ?_; intro c hc hwc) | fail)
    go_ret2
    have ec : c = (pjN 81 a b).getD 0 := (Lit.int.inj (DataW.lit.inj (hc.symm.trans HAT.out))).2
    exact ⟨by rw [HE.out, ← ec, ← HHAS.out]; rfl, hb1.trans (hb4.mono (Nat.le_of_lt hs1))⟩

theorem Join_any (a b : Int) (w : World) (ha : (Lit.int .i32 a).wf = true) (hb : (Lit.int .i32 b).wf = true) : Calls Tryz.prog 10 #[.int .i32 a, .int .i32 b] w (Tells (jnV a b) w) := by
  have HC := Lib.hid compositions_any
  have HJ : Hid (∀ m w, PMap w m 81 → Calls Tryz.prog 22 #[.map (some m), .agg #[.int .i32 a, .int .i32 b]] w (Tells (.tuple #[.int .i32 ((jn a b).getD 0), .bool (jn a b).isSome]) w)) := Lib.hid (fun m w hm => joinP_any m a b w hm ha hb)
  go_enter Tryz.func10, Tryz.ntmps10
  go_wp2_with (first | (go_at_call 23; refine (HC.out _).mono ?_; rintro e w4 ⟨rfl, hm4, hb4⟩) | (go_at_call 22; refine (HJ.out _ _ hm4).mono ?_; rintro e w5 ⟨rfl, hb5⟩) | fail)
  go_ret2
  exact ⟨rfl, hb4.trans (hb5.mono hb4.size)⟩
end Go.Proofs.YtncnagagigalhaaGreatDoor
