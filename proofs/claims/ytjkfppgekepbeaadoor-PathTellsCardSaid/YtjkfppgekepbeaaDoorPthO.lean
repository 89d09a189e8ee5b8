/-
  fascialaw16: Few; what a text of two bytes is as code points.
-/
import Derived.Test.YtjkfppgekepbeaaDoorPthN
import Derived.Test.YtjkfppgekepbeaaDoorPthZ
namespace Go.Proofs.YtjkfppgekepbeaaDoor.Pth
set_option maxRecDepth 100000
open Go.RowKit Utf Ut Hst

def few (ys : List ByteArray) : Bool := ys.all (fun s => decide (s.size ≤ 100)) && decide (ys.length ≤ 60)
theorem few_all {ys : List ByteArray} (h : few ys = true) : (∀ s ∈ ys, s.size ≤ 100) ∧ ys.length ≤ 60 := by
  unfold few at h
  rw [Bool.and_eq_true] at h
  exact ⟨fun s hs => of_decide_eq_true (List.all_eq_true.1 h.1 s hs), of_decide_eq_true h.2⟩
theorem few_no {ys : List ByteArray} {k : Nat} (hk : k < ys.length) (h : ¬ (ys[k]'hk).size ≤ 100) : few ys = false := by
  unfold few
  rw [Bool.and_eq_false_iff]
  refine .inl ?_
  rw [List.all_eq_false]
  exact ⟨_, List.getElem_mem hk, by simpa using h⟩
theorem few_len {ys : List ByteArray} (h : ∀ k (hk : k < ys.length), (ys[k]'hk).size ≤ 100) : few ys = decide (ys.length ≤ 60) := by
  unfold few
  have : ys.all (fun s => decide (s.size ≤ 100)) = true := by
    rw [List.all_eq_true]
    intro s hs
    obtain ⟨k, hk, rfl⟩ := List.getElem_of_mem hs
    exact decide_eq_true (h k hk)
  rw [this, Bool.true_and]
set_option maxHeartbeats 1000000 in
theorem Few_any (ys : List ByteArray) (A : Option Addr) (n c : Nat) (w : World) (hn : ys.length = n) (hn1 : n ≤ maxLen) (hr : Row w w.heap.size A (sx ys)) : Calls Tryd.prog 8 #[.slice A n c] w (fun e w' => e = .returned (.bool (few ys)) ∧ w = w') := by
  have HN := Lib.hid hn
  unfold maxLen at hn1
  clear hn
  go_enter Tryd.func8, Tryd.ntmps8
  go_wp2_with fail
  go_loopg [7] n (fun g s7 wr => ∃ k : Nat, s7 = .int .i64 (k : Int) ∧ n - k = g ∧ k ≤ n ∧ Hid (∀ j (hj : j < ys.length), j < k → (ys[j]'hj).size ≤ 100) ∧ wr = w)
  case atStart => exact ⟨0, rfl, rfl, Nat.zero_le _, Lib.hid (fun j _ hj => by omega), rfl⟩
  case round =>
    obtain ⟨k, rfl, rfl, hk, HA, rfl⟩ := hrel
    rename World => w0
    by_cases hlt : k < n
    · have hltz : (k : Int) < (n : Int) := by omega
      have hky : k < ys.length := by rw [HN.out]; exact hlt
      obtain ⟨b, o, rfl, hb, hcc⟩ := hr.at_ (by rw [List.length_map, HN.out]; omega)
      have c0 : w0.cell? ⟨b, o + k, none⟩ = some (.string ys[k]) := by rw [hcc k (by rw [List.length_map]; exact hky), sx_get _ _ hky]
      by_cases hs : (ys[k]'hky).size ≤ 100
      · have HA2 : Hid (∀ j (hj : j < ys.length), j < k + 1 → (ys[j]'hj).size ≤ 100) := Lib.hid (fun j hj h => by
          by_cases e : j = k
          · subst e; exact hs
          · exact HA.out j hj (by omega))
        obtain ⟨x, hx⟩ : ∃ x, ys[k] = x := ⟨_, rfl⟩
        rw [hx] at c0 hs
        have hz : ¬ (100 : Int) < (x.size : Int) := by omega
        clear hx hcc
        go_wp2_with fail
        go_roundg (n - (k + 1))
        case measure => omega
        case rel => exact ⟨k + 1, by go_num, rfl, by omega, HA2, rfl⟩
      · have HF := Lib.hid (few_no hky hs)
        obtain ⟨x, hx⟩ : ∃ x, ys[k] = x := ⟨_, rfl⟩
        rw [hx] at c0 hs
        have hz : (100 : Int) < (x.size : Int) := by omega
        clear hx hcc
        go_wp2_with fail
        go_ret
        exact ⟨ret_bool HF.out.symm, rfl⟩
    · obtain rfl : k = n := by omega
      have hltz : ¬ ((k : Nat) : Int) < (k : Int) := by omega
      have HF : Hid (few ys = decide (k ≤ 60)) := Lib.hid (by
        rw [few_len (fun j hj => HA.out j hj (by have := HN.out; omega)), HN.out])
      by_cases h60 : k ≤ 60
      · have hz : (k : Int) ≤ 60 := by omega
        have HE : Hid (few ys = true) := Lib.hid (by rw [HF.out]; exact decide_eq_true h60)
        clear HF h60
        go_wp2_with fail
        go_ret
        exact ⟨ret_bool HE.out.symm, rfl⟩
      · have hz : ¬ (k : Int) ≤ 60 := by omega
        have HE : Hid (few ys = false) := Lib.hid (by rw [HF.out]; exact decide_eq_false h60)
        clear HF h60
        go_wp2_with fail
        go_ret
        exact ⟨ret_bool HE.out.symm, rfl⟩
theorem get_bang {s : ByteArray} {i : Nat} (h : i < s.size) : s.get! i = s[i]'h := by
  show s.get! i = _
  simp [ByteArray.get!, getElem!_pos, h]
  rfl
/-- a text of two bytes, the second one a colon, as code points -/
theorem rn_two {s : ByteArray} (h2 : s.size = 2) (h58 : s[1]'(by omega) = 58) : rn s = [if (s[0]'(by omega)).toNat < 128 then ((s[0]'(by omega)).toNat : Int) else 65533, 58] := by
  have d1 : Utf8.decode s 1 = (58, 1) := by
    rw [decode_ascii s 1 (by omega) (by rw [h58]; decide), h58]
    rfl
  have d0 : Utf8.decode s 0 = (if (s[0]'(by omega)).toNat < 128 then (s[0]'(by omega)).toNat else 65533, 1) := by
    by_cases h : (s[0]'(by omega)).toNat < 128
    · rw [decode_ascii s 0 (by omega) h, if_pos h]
    · rw [if_neg h]
      have g0 : s.get! 0 = s[0]'(by omega) := get_bang (by omega)
      have g1 : s.get! 1 = 58 := by rw [get_bang (show 1 < s.size by omega), h58]
      unfold Utf8.decode
      simp only [Nat.add_zero, Nat.zero_add, g0, g1]
      rw [if_neg h]
      have e : ((58 : UInt8).toNat / 64 == 2) = false := by decide
      simp only [e, Bool.and_false, Bool.false_and, Bool.false_eq_true, if_false]
      rfl
  have e : rn s = rnF s 2 0 := congrArg (fun k => rnF s k 0) h2
  have h01 : 0 < s.size := by omega
  have h11 : 1 < s.size := by omega
  rw [e]
  simp only [rnF, d0, Nat.zero_add, d1, h01, h11, if_true]
  by_cases h : (s[0]'(by omega)).toNat < 128
  · simp [h]
  · simp [h]
theorem drv_two {s : ByteArray} (h2 : s.size = 2) (h58 : s[1]'(by omega) = 58) : drv (rn s) = nmd s := by
  rw [rn_two h2 h58]
  unfold nmd
  rw [two_bytes s h2, h58]
  have e1 : ∀ a : Int, drv [a, 58] = ltr a := fun a => by simp [drv]
  have e2 : ∀ a : UInt8, nmL [a, 58] = ltr (a.toNat : Int) := fun a => by simp [nmL]
  rw [e1, e2]
  split
  · rfl
  · rename_i h
    have h256 := (s[0]'(by omega)).toNat_lt
    have e : ltr 65533 = false := by decide
    rw [e]
    cases hl : ltr (((s[0]'(by omega)).toNat : Nat) : Int) with
    | false => rfl
    | true => have := ltr_rng hl; omega
theorem nmd_two {s : ByteArray} (h2 : s.size = 2) (h58 : s[1]'(by omega) ≠ 58) : nmd s = false := by
  unfold nmd
  rw [two_bytes s h2]
  show (_ && _) = _
  rw [beq_eq_false_iff_ne.2 h58, Bool.false_and]
end Go.Proofs.YtjkfppgekepbeaaDoor.Pth
