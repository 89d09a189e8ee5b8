/-
  four: split, digitOf, value, Number.
-/
import Derived.Test.YtpmdecdjlegcnaaDoorFourB
namespace Go.Proofs.YtpmdecdjlegcnaaDoor.Fou
open Go.RowKit

def SplitIs (l : List UInt8) (w : World) (e : Ending) (w' : World) : Prop := ∃ t : ByteArray, e = .returned (.tuple #[.string t, .int .u64 ((dgs l).2 : Int)]) ∧ dl t = (dgs l).1 ∧ t.size ≤ l.length ∧ w = w'
theorem dgs_bd (l : List UInt8) : (dgs l).2 = 8 ∨ (dgs l).2 = 10 ∨ (dgs l).2 = 16 := by
  unfold dgs
  split
  · split
    · split <;> simp
    · simp
  · simp
theorem split_mk {l : List UInt8} {t : ByteArray} {b : Int} {w : World} (h : dgs l = (dl t, b.toNat)) (hb : 0 ≤ b) (hl : (dl t).length ≤ l.length) : SplitIs l w (.returned (.tuple #[.string t, .int .u64 b])) w :=
  ⟨t, by rw [h]; simp [Int.toNat_of_nonneg hb], by rw [h], by rw [Lib.size_eq]; exact hl, rfl⟩
theorem byte_eq {c : UInt8} {k : Nat} (_ : k < 256) (h : ((c.toNat : Int) == (k : Int)) = true) : c = UInt8.ofNat k := by
  have : c.toNat = k := by have := eq_of_beq h; omega
  rw [← this]; simp
theorem byte_ne {c : UInt8} {k : Nat} (_ : k < 256) (h : ((c.toNat : Int) == (k : Int)) = false) : c ≠ UInt8.ofNat k := by
  rintro rfl
  simp at h
  omega
set_option maxHeartbeats 1000000 in
theorem split_any (s : ByteArray) (w : World) (hs : s.size ≤ 1000000) (hne : dl s ≠ []) : Calls Tryd.prog 29 #[.string s] w (SplitIs (dl s) w) := by
  have hp : 0 < s.size := by rw [Lib.size_eq]; exact List.length_pos_iff.2 hne
  have hz := Lib.size_eq s
  by_cases h1 : s.size = 1
  · have hone : ((s.size : Int) == 1) = true := by rw [h1]; rfl
    have hd : Hid (dgs (dl s) = (dl s, 10)) := by
      obtain ⟨x, hx⟩ := List.length_eq_one_iff.1 (hz.symm.trans h1)
      exact Lib.hid (by rw [dl, hx]; rfl)
    clear h1 hz hne
    go_enter Tryd.func29, Tryd.ntmps29
    go_wp2
    go_ret2
    exact split_mk hd.out (by decide) (Nat.le_refl _)
  · have hp1 : 1 < s.size := by omega
    have hone : ((s.size : Int) == 1) = false := by simp; omega
    obtain ⟨a, b, t, hx⟩ : ∃ a b t, dl s = a :: b :: t := by
      cases h : dl s with
      | nil => exact absurd h hne
      | cons a r =>
        cases r with
        | nil => exact absurd (show s.size = 1 by rw [hz]; exact congrArg List.length h) h1
        | cons b t => exact ⟨a, b, t, rfl⟩
    have g0 : s[0] = a := by rw [get_dl hp]; simp [hx]
    have g1 : s[1] = b := by rw [get_dl hp1]; simp [hx]
    have HX := Lib.hid hx
    have HZ : Hid (s.data.toList.length = s.size) := Lib.hid hz.symm
    clear h1 hz hne hx
    cases ha : ((s[0].toNat : Int) == 48) with
    | false =>
      have h0 : ((s[0].toNat : Int) != 48) = true := by rw [bne, ha]; rfl
      have hd : Hid (dgs (dl s) = (dl s, 10)) := Lib.hid (by rw [HX.out, dgs, if_neg (by rw [← g0]; exact byte_ne (k := 48) (by decide) ha)])
      clear ha g0 g1
      go_enter Tryd.func29, Tryd.ntmps29
      go_wp2
      go_ret2
      exact split_mk hd.out (by decide) (Nat.le_refl _)
    | true =>
      have h0 : ((s[0].toNat : Int) != 48) = false := by rw [bne, ha]; rfl
      have e48 : a = 48 := by rw [← g0]; exact byte_eq (k := 48) (by decide) ha
      cases hb : ((s[1].toNat : Int) == 120) with
      | true =>
        have e120 : b = 120 := by rw [← g1]; exact byte_eq (k := 120) (by decide) hb
        have hd : Hid (dgs (dl s) = (dl (s.extract 2 s.size), 16)) := Lib.hid (by rw [show dl (s.extract 2 s.size) = (dl s).drop 2 from ext_drop _ _ _ rfl, HX.out, dgs, if_pos e48, if_pos (.inl e120)]; rfl)
        have hq : (2 : Int) ≤ s.size := by omega
        clear ha g0 g1 e48 e120
        go_enter Tryd.func29, Tryd.ntmps29
        go_wp2
        go_ret2
        exact split_mk hd.out (by decide) (by rw [dl, ext_drop _ _ _ rfl]; simp)
      | false =>
        have n120 : ¬ b = 120 := by rw [← g1]; exact byte_ne (k := 120) (by decide) hb
        cases hc : ((s[1].toNat : Int) == 88) with
        | true =>
          have e88 : b = 88 := by rw [← g1]; exact byte_eq (k := 88) (by decide) hc
          have hd : Hid (dgs (dl s) = (dl (s.extract 2 s.size), 16)) := Lib.hid (by rw [show dl (s.extract 2 s.size) = (dl s).drop 2 from ext_drop _ _ _ rfl, HX.out, dgs, if_pos e48, if_pos (.inr e88)]; rfl)
          have hq : (2 : Int) ≤ s.size := by omega
          clear ha g0 g1 e48 e88 n120
          go_enter Tryd.func29, Tryd.ntmps29
          go_wp2
          go_ret2
          exact split_mk hd.out (by decide) (by rw [dl, ext_drop _ _ _ rfl]; simp)
        | false =>
          have n88 : ¬ b = 88 := by rw [← g1]; exact byte_ne (k := 88) (by decide) hc
          have hd : Hid (dgs (dl s) = (dl (s.extract 1 s.size), 8)) := Lib.hid (by rw [show dl (s.extract 1 s.size) = (dl s).drop 1 from ext_drop _ _ _ rfl, HX.out, dgs, if_pos e48, if_neg (by rintro (h | h); exact n120 h; exact n88 h)]; rfl)
          have hq : (1 : Int) ≤ s.size := by omega
          clear ha g0 g1 e48 n88 n120
          go_enter Tryd.func29, Tryd.ntmps29
          go_wp2
          go_ret2
          exact split_mk hd.out (by decide) (by rw [dl, ext_drop _ _ _ rfl]; simp)

def DigOf (b : Nat) (w : World) (e : Ending) (w' : World) : Prop := e = .returned (.func (.func 78) #[] #[.pointer (some ⟨w.heap.size, 0, none⟩)]) ∧ w' = w.alloc (.cells #[.int .u64 (b : Int)] 24)
theorem digitOf_any (b : Nat) (w : World) : Calls Tryd.prog 53 #[.int .u64 (b : Int)] w (DigOf b w) := by
  go_enter Tryd.func53, Tryd.ntmps53
  go_wp2
  go_ret
  exact ⟨rfl, rfl⟩

/-- what the closure tells of a byte -/
def DigR (b v : Nat) (w : World) (e : Ending) (w' : World) : Prop := (∃ d : Int, (0 ≤ d ∧ d < 256) ∧ e = .returned (.tuple #[.int .u64 d, .bool (decide (v < b))]) ∧ (v < b → d = v)) ∧ Below w.heap.size w w'
def Dig (b : Nat) (c : UInt8) (w : World) (e : Ending) (w' : World) : Prop := DigR b (dv c) w e w'
theorem dig_mk {b v : Nat} {d : Int} {w w' : World} (h : (0 ≤ d ∧ d < 256) ∧ (v < b ↔ d < (b : Int)) ∧ (v < b → d = v)) (hB : Below w.heap.size w w') : DigR b v w (.returned (.tuple #[.int .u64 d, .bool (decide (d < (b : Int)))])) w' :=
  ⟨⟨d, h.1, by rw [decide_eq_decide.2 h.2.1], h.2.2⟩, hB⟩
theorem dig_no {b v : Nat} {d : Int} {w w' : World} (h : (0 ≤ d ∧ d < 256) ∧ ¬ v < b) (hB : Below w.heap.size w w') : DigR b v w (.returned (.tuple #[.int .u64 d, .bool false])) w' :=
  ⟨⟨d, h.1, by rw [decide_eq_false h.2], fun e => absurd e h.2⟩, hB⟩
theorem below_drewN (w : World) (n : Nat) : Below w.heap.size w (w.drewN n) := ⟨rfl, rfl, rfl, Nat.le_refl _, fun _ _ => rfl⟩
theorem digit_v {z v : Nat} (h : v = if 48 ≤ z ∧ z ≤ 57 then z - 48 else if 97 ≤ z ∧ z ≤ 102 then z - 87 else if 65 ≤ z ∧ z ≤ 70 then z - 55 else 99) :
    (48 ≤ z ∧ z ≤ 57 → v = z - 48) ∧ (97 ≤ z ∧ z ≤ 102 → v = z - 87) ∧ (65 ≤ z ∧ z ≤ 70 → v = z - 55) ∧ (¬ (48 ≤ z ∧ z ≤ 57) → ¬ (97 ≤ z ∧ z ≤ 102) → ¬ (65 ≤ z ∧ z ≤ 70) → v = 99) := by
  subst h
  split
  · omega
  · split
    · omega
    · split <;> omega
set_option maxHeartbeats 1000000 in
theorem digit_any (b : Nat) (hb : b ≤ 16) (c : UInt8) (B : Nat) (w : World) (hc : w.cell? ⟨B, 0, none⟩ = some (.int .u64 (b : Int))) :
    Calls Tryd.prog 78 #[.int .u8 (c.toNat : Int), .pointer (some ⟨B, 0, none⟩)] w (Dig b c w) := by
  have hc8 : c.toNat < 256 := c.toNat_lt
  have hdv := digit_v (z := c.toNat) (v := dv c) rfl
  unfold Dig
  generalize dv c = v at hdv
  generalize c.toNat = z at hc8 hdv
  have HV := Lib.hid hdv
  clear hdv
  go_enter Tryd.func78, Tryd.ntmps78
  go_wp2
  all_goals
    go_quiet (fail)
    go_wp2
    go_ret2
    obtain ⟨hv1, hv2, hv3, hv4⟩ := HV.out
    first
    | exact dig_mk (by omega) (below_drewN _ _)
    | exact dig_no (by omega) (below_drewN _ _)
end Go.Proofs.YtpmdecdjlegcnaaDoor.Fou
