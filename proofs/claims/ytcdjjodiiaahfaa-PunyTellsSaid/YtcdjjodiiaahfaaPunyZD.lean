/-
  The document's own answer of layer 4: cut; what a text is, by its cut.
-/
import Derived.Test.YtcdjjodiiaahfaaPunyZC
namespace Go.Proofs.Ytcdjjodiiaahfaa
open Go.RowKit Go.Shelf Puny

def CutP (l p r : List UInt8) : Prop := (p ≠ [] ∧ l = p ++ 45 :: r ∧ 45 ∉ r) ∨ (p = [] ∧ r = l ∧ (45 ∉ l ∨ ∃ b, l = 45 :: b ∧ 45 ∉ b))
theorem decD_bad {b : List UInt8} : decD [] (45 :: b) = none := by
  rw [decD_eq]
  have : rdD (45 :: b) 0 72 700 = none := rdD_none (by simp) (by unfold num; rfl)
  show (rdD (45 :: b) 0 72 700).bind _ = none
  rw [this]; rfl
theorem dt_cut {l p r : List UInt8} (h : CutP l p r) : dt l = if p.all (fun x => decide (x.toNat < 128)) = true then decD (nat8 p) r else none := by
  unfold dt
  rcases h with ⟨h1, rfl, h3⟩ | ⟨rfl, rfl, h3 | ⟨b, rfl, h3⟩⟩
  · rw [splitLast_mk h3]
    have hp : 0 < p.length := List.length_pos_iff.2 h1
    simp [hp]
  · rw [splitLast_none h3]; rfl
  · have := splitLast_mk (a := []) h3
    rw [List.nil_append] at this
    rw [this]
    have e : decD (nat8 []) (45 :: b) = none := decD_bad
    rw [e]
    simp
def Cutted (l : List UInt8) (w : World) (e : Ending) (w' : World) : Prop := ∃ p r, CutP l p r ∧ e = .returned (.tuple #[.string (bs p), .string (bs r)]) ∧ Below w.heap.size w w'
theorem cutted_mk {l p r : List UInt8} {sp sr : ByteArray} {w w' : World} (h : CutP l p r) (hp : sp = bs p) (hr : sr = bs r) (hB : Below w.heap.size w w') : Cutted l w (.returned (.tuple #[.string sp, .string sr])) w' := ⟨p, r, h, by rw [hp, hr], hB⟩
theorem belowN (w : World) (q : Nat) : Below w.heap.size w (w.drewN q) := ⟨rfl, rfl, rfl, Nat.le_refl _, fun _ _ => rfl⟩

set_option maxRecDepth 100000 in
set_option maxHeartbeats 2000000 in
theorem rCut_any (s : ByteArray) (w : World) (hs : s.size ≤ 1000000) : Calls Try.prog 34 #[.string s] w (Cutted s.data.toList w) := by
  go_enter Try.func34, Try.ntmps34
  go_wp2
  go_loopg [4] (s.size + 1) (fun g s4 wr => ∃ k : Nat, s4 = .int .i64 ((k : Int) - 1) ∧ g = k + 1 ∧ k ≤ s.size ∧ Hid (45 ∉ s.data.toList.drop k) ∧ wr = w)
  case atStart => exact ⟨s.size, rfl, rfl, Nat.le_refl _, Lib.hid (by rw [List.drop_of_length_le (by rw [Lib.size_eq]; exact Nat.le_refl _)]; simp), rfl⟩
  case round =>
    obtain ⟨k, rfl, rfl, hk, HK, hwr⟩ := hrel
    rw [hwr]
    clear hwr
    by_cases h2 : 2 ≤ k
    · obtain ⟨i, rfl⟩ : ∃ i, k = i + 1 := ⟨k - 1, by omega⟩
      have e1 : (((i + 1 : Nat) : Int) - 1) = (i : Int) := by omega
      rw [e1]
      have hi0 : (0 : Int) < (i : Int) := by omega
      have his : i < s.size := by omega
      have hisz : (i : Int) < (s.size : Int) := by omega
      have hdrop : s.data.toList.drop i = s[i] :: s.data.toList.drop (i + 1) := List.drop_eq_getElem_cons (by simpa using his)
      by_cases h45 : s[i] = 45
      · have HP : Hid (CutP s.data.toList (s.data.toList.take i) (s.data.toList.drop (i + 1))) := Lib.hid (.inl ⟨fun e => by
            have := congrArg List.length e
            rw [List.length_take, ← Lib.size_eq, List.length_nil] at this
            omega, by rw [← h45, ← hdrop, List.take_append_drop], HK.out⟩)
        have hz : ((s[i].toNat : Nat) : Int) = 45 := by rw [h45]; rfl
        have hiz1 : (i : Int) + 1 ≤ (s.size : Int) := by omega
        have hiz2 : (i : Int) ≤ (s.size : Int) := by omega
        have hiz3 : (0 : Int) ≤ (i : Int) + 1 := by omega
        have wi : IntKind.i64.wrap ((i : Int) + 1) = (i : Int) + 1 := IntWalk.i64_in _ (by omega)
        clear hdrop h45
        go_wp2
        go_quiet (fail)
        go_wp2
        go_ret2
        exact cutted_mk HP.out (bs_eq (ext0_data s i)) (bs_eq (ext_data s (i + 1))) (belowN w _)
      · have hz : ¬ ((s[i].toNat : Nat) : Int) = 45 := fun e => h45 (UInt8.toNat_inj.1 (by
          have h9 : (45 : UInt8).toNat = 45 := rfl
          rw [h9]; omega))
        have hzb : (((s[i].toNat : Nat) : Int) == 45) = false := by simp; omega
        have HN : Hid (45 ∉ s.data.toList.drop i) := Lib.hid (by
          rw [hdrop]
          simp only [List.mem_cons, not_or]
          exact ⟨fun e => h45 e.symm, HK.out⟩)
        clear hdrop h45
        go_wp2
        go_roundg (i + 1)
        case measure => omega
        case rel => exact ⟨i, by go_num, rfl, by omega, HN, rfl⟩
    · have hz : ¬ (0 : Int) < (k : Int) - 1 := by omega
      have HP : Hid (CutP s.data.toList [] s.data.toList) := Lib.hid (.inr ⟨rfl, rfl, by
        have h := HK.out
        by_cases h0 : k = 0
        · subst h0; left; simpa using h
        · obtain rfl : k = 1 := by omega
          cases hl : s.data.toList with
          | nil => left; simp
          | cons x t =>
            rw [hl] at h
            simp only [List.drop_succ_cons, List.drop_zero] at h
            by_cases hx : x = 45
            · right; exact ⟨t, by rw [hx], h⟩
            · left
              simp only [List.mem_cons, not_or]
              exact ⟨fun e => hx e.symm, h⟩⟩)
      have hz2 : (k : Int) - 1 ≤ 0 := by omega
      go_wp2
      go_ret2
      exact cutted_mk HP.out rfl (bs_eq rfl) (Below.refl _ _)
end Go.Proofs.Ytcdjjodiiaahfaa
