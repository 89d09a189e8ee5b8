/-
  fasciaref06.One, fasciaref07.Code.
-/
import Derived.Test.YtenfdnnagijfnaaGreatDoorLabelC
import Derived.Test.YtenfdnnagijfnaaGreatDoorNormRG
namespace Go.Proofs.YtenfdnnagijfnaaGreatDoor
open Go.RowKit Norm Remap

set_option maxRecDepth 100000 in
set_option maxHeartbeats 4000000 in
theorem rows06_any (w : World) : Calls Tryz.prog 73 #[] w (TabW w 21 (cS shL) 55) := by
  go_enter Tryz.func73, Tryz.ntmps73
  go_wp2
  go_ret
  exact ⟨rfl, rfl⟩
set_option maxRecDepth 100000 in
set_option maxHeartbeats 1000000 in
theorem among_any (x : Int) (l : List Int) (A : Option Addr) (n c : Nat) (w : World) (hn : l.length = n) (hn1 : n ≤ 1000000) (hr : Row w w.heap.size A (cl .i32 l)) : Calls Tryz.prog 74 #[.int .i32 x, .slice A n c] w (IsB (decide (x ∈ l)) w) := by
  have HN := Lib.hid hn
  clear hn
  go_enter Tryz.func74, Tryz.ntmps74
  go_wp2_with fail
  go_loopg [5] n (fun m s5 wr => ∃ k : Nat, s5 = .int .i64 (k : Int) ∧ m = n - k ∧ k ≤ n ∧ Hid (∀ j, j < k → l[j]! ≠ x) ∧ wr = w)
  case atStart => exact ⟨0, rfl, rfl, Nat.zero_le _, Lib.hid (fun j hj => by omega), rfl⟩
  case round =>
    obtain ⟨k, rfl, rfl, hk, HNo, rfl⟩ := hrel
    by_cases hlt : k < n
    · have hltz : (k : Int) < (n : Int) := by omega
      obtain ⟨b, o, rfl, hb, hcc⟩ := hr.at_ (by have := HN.out; simp; omega)
      have c0 := row_cell hcc k (by rw [HN.out]; exact hlt)
      have hm := mems (l := l) (i := k) (by rw [HN.out]; exact hlt)
      obtain ⟨y, hy⟩ : ∃ y, l[k]! = y := ⟨_, rfl⟩
      rw [hy] at c0 hm
      have HY := Lib.hid hy
      have HM := Lib.hid hm
      clear hcc hy hm
      by_cases h : y = x
      · subst h
        have HQ : Hid (decide (y ∈ l) = true) := Lib.hid (decide_eq_true HM.out)
        go_wp2_with fail
        go_ret
        exact ⟨by rw [HQ.out]; rfl, Below.refl _ _⟩
      · have hb2 : (y == x) = false := by simpa using h
        go_wp2_with fail
        go_roundg (n - (k + 1))
        case measure => omega
        case rel =>
          refine ⟨k + 1, by go_num, rfl, by omega, Lib.hid (fun j hj => ?_), rfl⟩
          by_cases hjk : j = k
          · subst hjk; rw [HY.out]; exact h
          · exact HNo.out j (by omega)
    · obtain rfl : k = n := by omega
      have hltz : ¬ ((k : Nat) : Int) < (k : Int) := by omega
      have HQ : Hid (decide (x ∈ l) = false) := Lib.hid (decide_eq_false fun h => by
        obtain ⟨j, hj, e⟩ := List.getElem_of_mem h
        refine HNo.out j (by have := HN.out; omega) ?_
        rw [getElem!_pos l j hj]
        exact e)
      go_wp2_with fail
      go_ret
      exact ⟨by rw [HQ.out]; rfl, Below.refl _ _⟩
theorem ba_eq (r : Int) : baL.any (inP r) = decide ((128 ≤ r ∧ r ≤ 159) ∨ r = 65533 ∨ r = 1564 ∨ r = 8206 ∨ r = 8207 ∨ r = 8232 ∨ r = 8233 ∨ (8234 ≤ r ∧ r ≤ 8238) ∨ (8294 ≤ r ∧ r ≤ 8297)) := by
  rw [Bool.eq_iff_iff, decide_eq_true_eq, List.any_eq_true]
  constructor
  · rintro ⟨p, hp, h⟩
    have h := of_decide_eq_true h
    simp only [baL, List.mem_cons, List.mem_nil_iff, or_false] at hp
    rcases hp with rfl | rfl | rfl | rfl | rfl | rfl | rfl <;> dsimp only at h <;> omega
  · intro h
    have key : ∀ p ∈ baL, p.1 ≤ r ∧ r ≤ p.2 → ∃ p ∈ baL, inP r p = true := fun p hp hh => ⟨p, hp, decide_eq_true hh⟩
    rcases h with h | h | h | h | h | h | h | h | h
    · exact key (128, 159) (by decide) h
    · exact key (65533, 65533) (by decide) (by dsimp only; omega)
    · exact key (1564, 1564) (by decide) (by dsimp only; omega)
    · exact key (8206, 8207) (by decide) (by dsimp only; omega)
    · exact key (8206, 8207) (by decide) (by dsimp only; omega)
    · exact key (8232, 8233) (by decide) (by dsimp only; omega)
    · exact key (8232, 8233) (by decide) (by dsimp only; omega)
    · exact key (8234, 8238) (by decide) h
    · exact key (8294, 8297) (by decide) h
set_option maxRecDepth 100000 in
set_option maxHeartbeats 4000000 in
theorem bad_any (r : Int) (w : World) : Calls Tryz.prog 75 #[.int .i32 r] w (IsB (baL.any (inP r)) w) := by
  rw [ba_eq]
  have go : ∀ q : Bool, q = decide ((128 ≤ r ∧ r ≤ 159) ∨ r = 65533 ∨ r = 1564 ∨ r = 8206 ∨ r = 8207 ∨ r = 8232 ∨ r = 8233 ∨ (8234 ≤ r ∧ r ≤ 8238) ∨ (8294 ≤ r ∧ r ≤ 8297)) → Calls Tryz.prog 75 #[.int .i32 r] w (IsB q w) := by
    intro q hq
    have HQ := Lib.hid hq
    clear hq
    go_enter Tryz.func75, Tryz.ntmps75
    go_wp2
    all_goals go_ret
    all_goals (refine ⟨?_, Below.refl _ _⟩; rw [HQ.out]; congr 2; first | (simp; omega) | (simp_all; done) | (simp_all; omega) | (show Value.bool _ = Value.bool _; refine congrArg Value.bool ?_; rw [Bool.eq_iff_iff]; simp only [Bool.or_eq_true, decide_eq_true_eq, beq_iff_eq]; omega))
  exact go _ rfl
/-- what the document says of a code point -/
def rhow (r : Int) : Int := if (shL.find? (inS r)).isSome then 1 else if r = 8230 then 1 else if r ∈ [173, 8203, 65038, 65039, 65279] then 2 else if 0 ≤ r ∧ r < 128 then 0 else if Ucd.g (Ucd.of r) 0 = 0 ∨ baL.any (inP r) = true then 3 else 0
theorem ascii_rm : (List.range 128).all (fun i => decide (Ucd.g (Ucd.of (i : Int)) 0 ≠ 0) && !(baL.any (inP (i : Int))) && !(igL.any (inP (i : Int)))) = true := by decide +kernel
theorem sh_8230 : (shL.find? (inS 8230)) = none := by decide +kernel
theorem ig_eq (r : Int) : igL.any (inP r) = decide (r ∈ [173, 8203, 65038, 65039, 65279]) := by
  rw [Bool.eq_iff_iff, decide_eq_true_eq, List.any_eq_true]
  simp only [List.mem_cons, List.mem_nil_iff, or_false]
  constructor
  · rintro ⟨p, hp, h⟩
    have h := of_decide_eq_true h
    simp only [igL, List.mem_cons, List.mem_nil_iff, or_false] at hp
    rcases hp with rfl | rfl | rfl | rfl <;> dsimp only at h <;> omega
  · intro h
    have key : ∀ p ∈ igL, p.1 ≤ r ∧ r ≤ p.2 → ∃ p ∈ igL, inP r p = true := fun p hp hh => ⟨p, hp, decide_eq_true hh⟩
    rcases h with h | h | h | h | h
    · exact key (173, 173) (by decide) (by dsimp only; omega)
    · exact key (8203, 8203) (by decide) (by dsimp only; omega)
    · exact key (65038, 65039) (by decide) (by dsimp only; omega)
    · exact key (65038, 65039) (by decide) (by dsimp only; omega)
    · exact key (65279, 65279) (by decide) (by dsimp only; omega)
theorem rhow_vd (r : Int) : decide (rhow r = 0) = vd r := by
  unfold rhow vd one mp
  by_cases h8 : r = 8230
  · subst h8
    rw [if_pos rfl, if_pos rfl, sh_8230]
    rfl
  · rw [if_neg h8, if_neg h8]
    cases hf : shL.find? (inS r) with
    | some s => simp
    | none =>
      rw [ig_eq]
      simp only [Option.isSome_none, Bool.false_eq_true, if_false, Option.map_none]
      by_cases hi : r ∈ [173, 8203, 65038, 65039, 65279]
      · rw [if_pos hi, decide_eq_true hi]
        simp
      · rw [if_neg hi, decide_eq_false hi]
        simp only [Bool.false_eq_true, if_false]
        by_cases ha : 0 ≤ r ∧ r < 128
        · rw [if_pos ha]
          have := List.all_eq_true.1 ascii_rm r.toNat (List.mem_range.2 (by omega))
          rw [show ((r.toNat : Nat) : Int) = r from by omega] at this
          simp only [Bool.and_eq_true, decide_eq_true_eq, Bool.not_eq_true'] at this
          unfold vl
          simp [this.1.1, this.1.2]
        · rw [if_neg ha]
          unfold vl
          by_cases h0 : Ucd.g (Ucd.of r) 0 = 0
          · simp [h0]
          · cases baL.any (inP r) <;> simp [h0]
end Go.Proofs.YtenfdnnagijfnaaGreatDoor
