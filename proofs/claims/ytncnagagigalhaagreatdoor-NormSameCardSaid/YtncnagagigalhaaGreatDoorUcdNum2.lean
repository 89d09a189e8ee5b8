/-
  The contracts of strconv.ParseInt and of ucd.number at short numbers.
-/
import Derived.Test.YtncnagagigalhaaGreatDoorUcdNum
namespace Go.Proofs.YtncnagagigalhaaGreatDoor
open Go.RowKit Ucd

set_option maxRecDepth 100000 in
set_option maxHeartbeats 4000000 in
theorem ParseIntI10 (l : List UInt8) (w : World) (hl : isNum 10 l = true) :
    Calls Tryz.prog 76 #[.string (bst l), .int .i64 10, .int .i64 32] w fun e w' => e = .returned (.tuple #[.int .i64 (num 10 0 l), .nilIface]) ∧ Below w.heap.size w w' := by
  have hl' := hl
  unfold isNum at hl'
  simp only [Bool.and_eq_true, decide_eq_true_eq] at hl'
  obtain ⟨⟨h1, h4⟩, hall⟩ := hl'
  cases l with
  | nil => simp at h1
  | cons c m =>
    have hP := ParseUint10 (c :: m) w hl
    have hn := num_small (b := 10) (by decide) hl
    obtain ⟨n, hn'⟩ : ∃ n : Int, n = (num 10 0 (c :: m) : Int) := ⟨_, rfl⟩
    rw [← hn'] at hP ⊢
    have n0 : 0 ≤ n := by omega
    have n1 : n < 65536 := by omega
    clear hn hn'
    rw [List.all_cons, Bool.and_eq_true] at hall
    have hdg := isDig_cases hall.1
    have c0 : 48 ≤ c.toNat := by omega
    have HP := Lib.hid hP
    clear hall hdg hl hP
    have hg : ∀ h, (bst (c :: m))[0]'h = c := fun h => rfl
    have hs : (bst (c :: m)).size = m.length + 1 := bst_size _
    obtain ⟨t, ht⟩ : ∃ t, bst (c :: m) = t := ⟨_, rfl⟩
    rw [ht] at hs hg HP ⊢
    have hs0 : 0 < t.size := by omega
    have hg := hg hs0
    have hemp : t.toList.isEmpty = false := by
      rw [← decide_eq_emptyBytes]
      exact decide_eq_false (fun h => by rw [h] at hs; simp at hs)
    have i1 : ((c.toNat : Int) == 43) = false := by simp; omega
    have i2 : ((c.toNat : Int) == 45) = false := by simp; omega
    clear ht
    go_enter Tryz.func76, Tryz.ntmps76
    go_wp2_with (go_at_call 88; ((with_reducible refine (Hid.out HP).mono ?_); rintro e w' ⟨rfl, hb⟩))
    go_ret2
    exact ⟨rfl, hb⟩

set_option maxRecDepth 100000 in
set_option maxHeartbeats 4000000 in
theorem ParseInt10 (l : List UInt8) (w : World) (hl : isNum 10 l = true) :
    Calls Tryz.prog 62 #[.string (bst l), .int .i64 10, .int .i64 32] w fun e w' => e = .returned (.tuple #[.int .i64 (num 10 0 l), .nilIface]) ∧ Below w.heap.size w w' := by
  go_enter Tryz.func62, Tryz.ntmps62
  go_wp2_with (go_at_call 76; refine (ParseIntI10 l _ hl).mono ?_; rintro e w' ⟨rfl, hb⟩)
  go_ret2
  exact ⟨rfl, hb⟩

set_option maxRecDepth 100000 in
set_option maxHeartbeats 4000000 in
theorem number10 (l : List UInt8) (w : World) (hs : l.length ≤ 1000) (hl : isNum 10 (Lib.trimLeftB l 32) = true) :
    Calls Tryz.prog 45 #[.string (bst l), .int .i64 10] w fun e w' => e = .returned (.int .i64 (num 10 0 (Lib.trimLeftB l 32))) ∧ Below w.heap.size w w' := by
  go_enter Tryz.func45, Tryz.ntmps45
  go_wp2_with (first | (go_at_call 63; refine (TrimLeft_any l _ hs).mono ?_; rintro e w' ⟨rfl, rfl⟩) | (go_at_call 62; refine (ParseInt10 _ _ hl).mono ?_; rintro e w' ⟨rfl, hb⟩))
  go_ret
  exact ⟨rfl, hb⟩


set_option maxRecDepth 100000 in
set_option maxHeartbeats 4000000 in
theorem ParseIntI16 (l : List UInt8) (w : World) (hl : isNum 16 l = true) :
    Calls Tryz.prog 76 #[.string (bst l), .int .i64 16, .int .i64 32] w fun e w' => e = .returned (.tuple #[.int .i64 (num 16 0 l), .nilIface]) ∧ Below w.heap.size w w' := by
  have hl' := hl
  unfold isNum at hl'
  simp only [Bool.and_eq_true, decide_eq_true_eq] at hl'
  obtain ⟨⟨h1, h4⟩, hall⟩ := hl'
  cases l with
  | nil => simp at h1
  | cons c m =>
    have hP := ParseUint16 (c :: m) w hl
    have hn := num_small (b := 16) (by decide) hl
    obtain ⟨n, hn'⟩ : ∃ n : Int, n = (num 16 0 (c :: m) : Int) := ⟨_, rfl⟩
    rw [← hn'] at hP ⊢
    have n0 : 0 ≤ n := by omega
    have n1 : n < 65536 := by omega
    clear hn hn'
    rw [List.all_cons, Bool.and_eq_true] at hall
    have hdg := isDig_cases hall.1
    have c0 : 48 ≤ c.toNat := by omega
    have HP := Lib.hid hP
    clear hall hdg hl hP
    have hg : ∀ h, (bst (c :: m))[0]'h = c := fun h => rfl
    have hs : (bst (c :: m)).size = m.length + 1 := bst_size _
    obtain ⟨t, ht⟩ : ∃ t, bst (c :: m) = t := ⟨_, rfl⟩
    rw [ht] at hs hg HP ⊢
    have hs0 : 0 < t.size := by omega
    have hg := hg hs0
    have hemp : t.toList.isEmpty = false := by
      rw [← decide_eq_emptyBytes]
      exact decide_eq_false (fun h => by rw [h] at hs; simp at hs)
    have i1 : ((c.toNat : Int) == 43) = false := by simp; omega
    have i2 : ((c.toNat : Int) == 45) = false := by simp; omega
    clear ht
    go_enter Tryz.func76, Tryz.ntmps76
    go_wp2_with (go_at_call 88; ((with_reducible refine (Hid.out HP).mono ?_); rintro e w' ⟨rfl, hb⟩))
    go_ret2
    exact ⟨rfl, hb⟩

set_option maxRecDepth 100000 in
set_option maxHeartbeats 4000000 in
theorem ParseInt16 (l : List UInt8) (w : World) (hl : isNum 16 l = true) :
    Calls Tryz.prog 62 #[.string (bst l), .int .i64 16, .int .i64 32] w fun e w' => e = .returned (.tuple #[.int .i64 (num 16 0 l), .nilIface]) ∧ Below w.heap.size w w' := by
  go_enter Tryz.func62, Tryz.ntmps62
  go_wp2_with (go_at_call 76; refine (ParseIntI16 l _ hl).mono ?_; rintro e w' ⟨rfl, hb⟩)
  go_ret2
  exact ⟨rfl, hb⟩

set_option maxRecDepth 100000 in
set_option maxHeartbeats 4000000 in
theorem number16 (l : List UInt8) (w : World) (hs : l.length ≤ 1000) (hl : isNum 16 (Lib.trimLeftB l 32) = true) :
    Calls Tryz.prog 45 #[.string (bst l), .int .i64 16] w fun e w' => e = .returned (.int .i64 (num 16 0 (Lib.trimLeftB l 32))) ∧ Below w.heap.size w w' := by
  go_enter Tryz.func45, Tryz.ntmps45
  go_wp2_with (first | (go_at_call 63; refine (TrimLeft_any l _ hs).mono ?_; rintro e w' ⟨rfl, rfl⟩) | (go_at_call 62; refine (ParseInt16 _ _ hl).mono ?_; rintro e w' ⟨rfl, hb⟩))
  go_ret
  exact ⟨rfl, hb⟩

end Go.Proofs.YtncnagagigalhaaGreatDoor
