/-
  fasciaref13: worth, is.
-/
import Derived.Test.YtcoppicieicikaaDoorSixI
namespace Go.Proofs.YtcoppicieicikaaDoor.Sx
open Go.RowKit

/-- the byte at a place -/
def byt? (l : List UInt8) (k : Nat) : Option UInt8 := l[k]?
/-- what a digit at a place is worth -/
def wth (l : List UInt8) (k : Nat) : Nat := match l[k]? with | some c => dv c | none => 99
set_option maxHeartbeats 2000000 in
theorem worth_any (s : ByteArray) (k : Nat) (w : World) (hk : k ≤ 200) : Calls Tryd.prog 29 #[.string s, .int .i64 (k : Int)] w (fun e w' => e = .returned (.int .i64 (wth (dl s) k : Int)) ∧ w' = w) := by
  by_cases h : k < s.size
  · have hz : (k : Int) < (s.size : Int) := by omega
    have hkz : (0 : Int) ≤ (k : Int) := by omega
    obtain ⟨c, hc⟩ : ∃ c : UInt8, (dl s)[k]? = some c := ⟨_, List.getElem?_eq_getElem (by rw [dl, ← Lib.size_eq]; exact h)⟩
    have hsk : s[k] = c := by
      have e : s[k] = (dl s)[k]'(by rw [dl, ← Lib.size_eq]; exact h) := by simp [dl]; rfl
      rw [e]
      exact (List.getElem?_eq_some_iff.1 hc).2
    have hw : wth (dl s) k = dv c := by unfold wth; rw [hc]
    have hv256 : c.toNat < 256 := c.toNat_lt
    have hdv : dv c = if 48 ≤ c.toNat ∧ c.toNat ≤ 57 then c.toNat - 48 else if 97 ≤ c.toNat ∧ c.toNat ≤ 102 then c.toNat - 87 else if 65 ≤ c.toNat ∧ c.toNat ≤ 70 then c.toNat - 55 else 99 := rfl
    obtain ⟨d, hd⟩ : ∃ d, dv c = d := ⟨_, rfl⟩
    rw [hw, hd]
    rw [hd] at hdv
    have HSK := Lib.hid hsk
    have HC := Lib.hid hdv
    clear hc hw hdv hsk hd
    go_enter Tryd.func29, Tryd.ntmps29
    go_upto_region 4 with fail
    rw [HSK.out]
    have hdv := HC.out
    generalize c.toNat = v at hdv hv256 ⊢
    clear HSK HC
    have hcs : (0 ≤ v ∧ v ≤ 47) ∨ (48 ≤ v ∧ v ≤ 57) ∨ (58 ≤ v ∧ v ≤ 64) ∨ (65 ≤ v ∧ v ≤ 70) ∨ (71 ≤ v ∧ v ≤ 96) ∨ (97 ≤ v ∧ v ≤ 102) ∨ (103 ≤ v ∧ v ≤ 255) := by omega
    rcases hcs with ⟨e1, e2⟩ | ⟨e1, e2⟩ | ⟨e1, e2⟩ | ⟨e1, e2⟩ | ⟨e1, e2⟩ | ⟨e1, e2⟩ | ⟨e1, e2⟩
    · have e : Hid ((d : Int) = 99) := Lib.hid (by split at hdv <;> (try split at hdv) <;> (try split at hdv) <;> omega)
      have p0 : ¬ (48 : Int) ≤ (v : Int) := by omega
      have p1 : (v : Int) ≤ 57 := by omega
      have p2 : ¬ (97 : Int) ≤ (v : Int) := by omega
      have p3 : (v : Int) ≤ 102 := by omega
      have p4 : ¬ (65 : Int) ≤ (v : Int) := by omega
      have p5 : (v : Int) ≤ 70 := by omega
      clear hdv e1 e2
      go_wp2_with fail
      go_ret
      exact ⟨congrArg (fun q => Ending.returned (.int .i64 q)) (show 99 = (d : Int) by have := e.out; omega), rfl⟩
    · have e : Hid ((d : Int) = (v : Int) - 48) := Lib.hid (by split at hdv <;> (try split at hdv) <;> (try split at hdv) <;> omega)
      have p0 : (48 : Int) ≤ (v : Int) := by omega
      have p1 : (v : Int) ≤ 57 := by omega
      have p2 : ¬ (97 : Int) ≤ (v : Int) := by omega
      have p3 : (v : Int) ≤ 102 := by omega
      have p4 : ¬ (65 : Int) ≤ (v : Int) := by omega
      have p5 : (v : Int) ≤ 70 := by omega
      clear hdv e1 e2
      go_wp2_with fail
      go_ret
      exact ⟨congrArg (fun q => Ending.returned (.int .i64 q)) (show (v : Int) - 48 = (d : Int) by have := e.out; omega), rfl⟩
    · have e : Hid ((d : Int) = 99) := Lib.hid (by split at hdv <;> (try split at hdv) <;> (try split at hdv) <;> omega)
      have p0 : (48 : Int) ≤ (v : Int) := by omega
      have p1 : ¬ (v : Int) ≤ 57 := by omega
      have p2 : ¬ (97 : Int) ≤ (v : Int) := by omega
      have p3 : (v : Int) ≤ 102 := by omega
      have p4 : ¬ (65 : Int) ≤ (v : Int) := by omega
      have p5 : (v : Int) ≤ 70 := by omega
      clear hdv e1 e2
      go_wp2_with fail
      go_ret
      exact ⟨congrArg (fun q => Ending.returned (.int .i64 q)) (show 99 = (d : Int) by have := e.out; omega), rfl⟩
    · have e : Hid ((d : Int) = (v : Int) - 55) := Lib.hid (by split at hdv <;> (try split at hdv) <;> (try split at hdv) <;> omega)
      have p0 : (48 : Int) ≤ (v : Int) := by omega
      have p1 : ¬ (v : Int) ≤ 57 := by omega
      have p2 : ¬ (97 : Int) ≤ (v : Int) := by omega
      have p3 : (v : Int) ≤ 102 := by omega
      have p4 : (65 : Int) ≤ (v : Int) := by omega
      have p5 : (v : Int) ≤ 70 := by omega
      clear hdv e1 e2
      go_wp2_with fail
      go_ret
      exact ⟨congrArg (fun q => Ending.returned (.int .i64 q)) (show (v : Int) - 65 + 10 = (d : Int) by have := e.out; omega), rfl⟩
    · have e : Hid ((d : Int) = 99) := Lib.hid (by split at hdv <;> (try split at hdv) <;> (try split at hdv) <;> omega)
      have p0 : (48 : Int) ≤ (v : Int) := by omega
      have p1 : ¬ (v : Int) ≤ 57 := by omega
      have p2 : ¬ (97 : Int) ≤ (v : Int) := by omega
      have p3 : (v : Int) ≤ 102 := by omega
      have p4 : (65 : Int) ≤ (v : Int) := by omega
      have p5 : ¬ (v : Int) ≤ 70 := by omega
      clear hdv e1 e2
      go_wp2_with fail
      go_ret
      exact ⟨congrArg (fun q => Ending.returned (.int .i64 q)) (show 99 = (d : Int) by have := e.out; omega), rfl⟩
    · have e : Hid ((d : Int) = (v : Int) - 87) := Lib.hid (by split at hdv <;> (try split at hdv) <;> (try split at hdv) <;> omega)
      have p0 : (48 : Int) ≤ (v : Int) := by omega
      have p1 : ¬ (v : Int) ≤ 57 := by omega
      have p2 : (97 : Int) ≤ (v : Int) := by omega
      have p3 : (v : Int) ≤ 102 := by omega
      have p4 : (65 : Int) ≤ (v : Int) := by omega
      have p5 : ¬ (v : Int) ≤ 70 := by omega
      clear hdv e1 e2
      go_wp2_with fail
      go_ret
      exact ⟨congrArg (fun q => Ending.returned (.int .i64 q)) (show (v : Int) - 97 + 10 = (d : Int) by have := e.out; omega), rfl⟩
    · have e : Hid ((d : Int) = 99) := Lib.hid (by split at hdv <;> (try split at hdv) <;> (try split at hdv) <;> omega)
      have p0 : (48 : Int) ≤ (v : Int) := by omega
      have p1 : ¬ (v : Int) ≤ 57 := by omega
      have p2 : (97 : Int) ≤ (v : Int) := by omega
      have p3 : ¬ (v : Int) ≤ 102 := by omega
      have p4 : (65 : Int) ≤ (v : Int) := by omega
      have p5 : ¬ (v : Int) ≤ 70 := by omega
      clear hdv e1 e2
      go_wp2_with fail
      go_ret
      exact ⟨congrArg (fun q => Ending.returned (.int .i64 q)) (show 99 = (d : Int) by have := e.out; omega), rfl⟩
  · have hz : ¬ (k : Int) < (s.size : Int) := by omega
    have hw : wth (dl s) k = 99 := by
      unfold wth
      rw [List.getElem?_eq_none (by rw [dl, ← Lib.size_eq]; omega)]
    rw [hw]
    go_enter Tryd.func29, Tryd.ntmps29
    go_wp2_with fail
    go_ret
    exact ⟨rfl, rfl⟩
/-- stands a byte there -/
def isb (l : List UInt8) (k : Nat) (c : Nat) : Bool := match l[k]? with | some d => d.toNat == c | none => false
theorem is_any (s : ByteArray) (k c : Nat) (w : World) (hk : k ≤ 200) : Calls Tryd.prog 28 #[.string s, .int .i64 (k : Int), .int .u8 (c : Int)] w (fun e w' => e = .returned (.bool (isb (dl s) k c)) ∧ w' = w) := by
  by_cases h : k < s.size
  · have hz : (k : Int) < (s.size : Int) := by omega
    have hkz : (0 : Int) ≤ (k : Int) := by omega
    obtain ⟨d, hd⟩ : ∃ d : UInt8, (dl s)[k]? = some d := ⟨_, List.getElem?_eq_getElem (by rw [dl, ← Lib.size_eq]; exact h)⟩
    have hsk : s[k] = d := by
      have e : s[k] = (dl s)[k]'(by rw [dl, ← Lib.size_eq]; exact h) := by simp [dl]; rfl
      rw [e]
      exact (List.getElem?_eq_some_iff.1 hd).2
    have hw : isb (dl s) k c = (d.toNat == c) := by unfold isb; rw [hd]
    obtain ⟨q, hq⟩ : ∃ q, (d.toNat == c) = q := ⟨_, rfl⟩
    have HQ : Hid ((((s[k].toNat : Nat) : Int) == (c : Int)) = q) := Lib.hid (by
      rw [hsk, ← hq]
      by_cases e : d.toNat = c
      · rw [e]; simp
      · rw [beq_eq_false_iff_ne.2 (by omega), beq_eq_false_iff_ne.2 e])
    rw [hw, hq]
    have hq2 := HQ.out
    clear hd hsk hw hq HQ
    go_enter Tryd.func28, Tryd.ntmps28
    go_wp2_with fail
    go_ret
    exact ⟨by rw [← hq2] <;> rfl, rfl⟩
  · have hz : ¬ (k : Int) < (s.size : Int) := by omega
    have hw : isb (dl s) k c = false := by
      unfold isb
      rw [List.getElem?_eq_none (by rw [dl, ← Lib.size_eq]; omega)]
    rw [hw]
    go_enter Tryd.func28, Tryd.ntmps28
    go_wp2_with fail
    go_ret
    exact ⟨rfl, rfl⟩
end Go.Proofs.YtcoppicieicikaaDoor.Sx
