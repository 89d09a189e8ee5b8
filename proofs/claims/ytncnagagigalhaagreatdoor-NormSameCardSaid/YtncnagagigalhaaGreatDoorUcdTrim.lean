/-
  The contracts of strings.TrimLeft and strings.TrimRight at one blank.
-/
import Derived.Test.YtncnagagigalhaaGreatDoorRows
import Derived.Test.YtncnagagigalhaaGreatDoorWords
import Derived.WalkKit
import Derived.WalkLawsBesides
import Derived.WalkSpells
import Derived.Outline
import Derived.Lib.Hide
import Derived.Lib.TrimByte
import Derived.Lib.Walk
import Derived.Laws.Strings3
namespace Go.Proofs.YtncnagagigalhaaGreatDoor
open Go.RowKit

/-- bytes as a string -/
abbrev bst (l : List UInt8) : ByteArray := ⟨l.toArray⟩

theorem bst_size (l : List UInt8) : (bst l).size = l.length := Lib.size_mk l
theorem bst_get (l : List UInt8) (i : Nat) (h : i < (bst l).size) : (bst l)[i]'h = l[i]'(by rw [bst_size] at h; exact h) := rfl

set_option maxRecDepth 100000 in
set_option maxHeartbeats 400000 in
theorem trimLeftByte_any (l : List UInt8) (w : World) :
    Calls Tryz.prog 78 #[.string (bst l), .int .u8 32] w fun e w' => e = .returned (.string (bst (Lib.trimLeftB l 32))) ∧ w = w' := by
  go_enter Tryz.func78, Tryz.ntmps78
  go_wp2
  go_loop [0] (fun v => ∃ m : List UInt8, v = .string (bst m) ∧ Hid (m.length ≤ l.length ∧ Lib.trimLeftB m 32 = Lib.trimLeftB l 32)) (fun v => Lib.strSize v)
  case atStart => exact ⟨l, rfl, Lib.hid ⟨Nat.le_refl _, rfl⟩⟩
  case round =>
    obtain ⟨m, rfl, H⟩ := hrel
    obtain ⟨hm, _⟩ := H.out
    match m, H, hm with
    | [], H, hm =>
      go_wp2
      go_ret
      exact ⟨ret_val (by rw [← H.out.2]; rfl), rfl⟩
    | c :: m, H, hm =>
      have hs : (bst (c :: m)).size = m.length + 1 := bst_size _
      have hg : ∀ h, (bst (c :: m))[0]'h = c := fun h => rfl
      have hx : (bst (c :: m)).extract 1 (m.length + 1) = bst m := by rw [Lib.extract_mk]; simp
      simp at hm
      by_cases hc : c = 32
      · subst hc
        have HT : Hid (m.length ≤ l.length ∧ Lib.trimLeftB m 32 = Lib.trimLeftB l 32) := Lib.hid ⟨by omega, by rw [← H.out.2]; rfl⟩
        clear H
        go_wp2
        go_round
        case rel => exact ⟨m, rfl, HT⟩
        case measure => rw [Lib.strSize_string, Lib.strSize_string, bst_size, bst_size]; simp
      · have hc' : ((c.toNat : Int) == 32) = false := by
          simp
          intro e
          exact hc (UInt8.toNat_inj.1 (by exact_mod_cast e))
        have HT : Hid (Lib.trimLeftB (c :: m) 32 = c :: m) := Lib.hid (by simp [Lib.trimLeftB, hc])
        go_wp2
        go_ret
        exact ⟨ret_val (by rw [← H.out.2, HT.out]; rfl), rfl⟩

theorem trimRightB_snoc (m : List UInt8) : Lib.trimRightB (m ++ [32]) 32 = Lib.trimRightB m 32 := by simp [Lib.trimRightB]
theorem trimRightB_stop (m : List UInt8) (c : UInt8) (h : ¬ c = 32) : Lib.trimRightB (m ++ [c]) 32 = m ++ [c] := by simp [Lib.trimRightB, h]

set_option maxRecDepth 100000 in
set_option maxHeartbeats 400000 in
theorem trimRightByte_any (l : List UInt8) (w : World) (hl : l.length ≤ 1000) :
    Calls Tryz.prog 82 #[.string (bst l), .int .u8 32] w fun e w' => e = .returned (.string (bst (Lib.trimRightB l 32))) ∧ w = w' := by
  go_enter Tryz.func82, Tryz.ntmps82
  go_wp2
  go_loop [0] (fun v => ∃ m : List UInt8, v = .string (bst m) ∧ Hid (m.length ≤ l.length ∧ Lib.trimRightB m 32 = Lib.trimRightB l 32)) (fun v => Lib.strSize v)
  case atStart => exact ⟨l, rfl, Lib.hid ⟨Nat.le_refl _, rfl⟩⟩
  case round =>
    obtain ⟨m, rfl, H⟩ := hrel
    rcases List.eq_nil_or_concat m with rfl | ⟨m, c, rfl⟩
    · go_wp2
      go_ret
      exact ⟨ret_val (by rw [← H.out.2]; rfl), rfl⟩
    · rw [List.concat_eq_append] at H ⊢
      have hm : m.length + 1 ≤ l.length := by have := H.out.1; simp at this; omega
      have hs : (bst (m ++ [c])).size = m.length + 1 := by rw [bst_size]; simp
      have hg : ∀ h, (bst (m ++ [c]))[m.length]'h = c := fun h => by rw [bst_get]; simp
      have hx : (bst (m ++ [c])).extract 0 m.length = bst m := by rw [Lib.extract_mk]; simp
      obtain ⟨t, ht⟩ : ∃ t, bst (m ++ [c]) = t := ⟨_, rfl⟩
      rw [ht] at hs hg hx ⊢
      have HTT := Lib.hid ht
      clear ht
      have hlt : m.length < t.size := by omega
      have hg := hg hlt
      by_cases hc : c = 32
      · subst hc
        have HT : Hid (m.length ≤ l.length ∧ Lib.trimRightB m 32 = Lib.trimRightB l 32) := Lib.hid ⟨by omega, by rw [← H.out.2, trimRightB_snoc]⟩
        clear H
        go_wp2
        go_round
        case rel => exact ⟨m, rfl, HT⟩
        case measure => rw [Lib.strSize_string, Lib.strSize_string, bst_size, hs]; simp
      · have hc' : ((c.toNat : Int) == 32) = false := by
          simp
          intro e
          exact hc (UInt8.toNat_inj.1 (by exact_mod_cast e))
        go_wp2
        go_ret
        exact ⟨ret_val (by rw [← H.out.2, trimRightB_stop m c hc, HTT.out]; rfl), rfl⟩

set_option maxRecDepth 100000 in
set_option maxHeartbeats 400000 in
theorem TrimLeft_any (l : List UInt8) (w : World) (hl : l.length ≤ 1000) :
    Calls Tryz.prog 63 #[.string (bst l), .string ⟨#[32]⟩] w fun e w' => e = .returned (.string (bst (Lib.trimLeftB l 32))) ∧ w = w' := by
  match l, hl with
  | [], hl =>
    go_enter Tryz.func63, Tryz.ntmps63
    go_wp2
    go_ret
    exact ⟨rfl, rfl⟩
  | c :: l, hl =>
    have hs : (bst (c :: l)).size = l.length + 1 := bst_size _
    have he : (bst (c :: l)).toList.isEmpty = false := by
      rw [← decide_eq_emptyBytes]
      exact decide_eq_false (fun h => by rw [h] at hs; simp at hs)
    go_enter Tryz.func63, Tryz.ntmps63
    go_wp2_with (go_at_call 78; refine (trimLeftByte_any (c :: l) _).mono ?_; rintro e w' ⟨rfl, rfl⟩)
    go_ret
    exact ⟨rfl, rfl⟩

set_option maxRecDepth 100000 in
set_option maxHeartbeats 400000 in
theorem TrimRight_any (l : List UInt8) (w : World) (hl : l.length ≤ 1000) :
    Calls Tryz.prog 64 #[.string (bst l), .string ⟨#[32]⟩] w fun e w' => e = .returned (.string (bst (Lib.trimRightB l 32))) ∧ w = w' := by
  match l, hl with
  | [], hl =>
    go_enter Tryz.func64, Tryz.ntmps64
    go_wp2
    go_ret
    exact ⟨rfl, rfl⟩
  | c :: l, hl =>
    have hs : (bst (c :: l)).size = l.length + 1 := bst_size _
    have he : (bst (c :: l)).toList.isEmpty = false := by
      rw [← decide_eq_emptyBytes]
      exact decide_eq_false (fun h => by rw [h] at hs; simp at hs)
    go_enter Tryz.func64, Tryz.ntmps64
    go_wp2_with (go_at_call 82; refine (trimRightByte_any (c :: l) _ hl).mono ?_; rintro e w' ⟨rfl, rfl⟩)
    go_ret
    exact ⟨rfl, rfl⟩

set_option maxRecDepth 100000 in
set_option maxHeartbeats 400000 in
theorem name_any (l : List UInt8) (w : World) (hl : l.length ≤ 1000) :
    Calls Tryz.prog 47 #[.string (bst l)] w fun e w' => e = .returned (.string (bst (Lib.trimRightB l 32))) ∧ w = w' := by
  go_enter Tryz.func47, Tryz.ntmps47
  go_wp2_with (go_at_call 64; refine (TrimRight_any l _ hl).mono ?_; rintro e w' ⟨rfl, rfl⟩)
  go_ret
  exact ⟨rfl, rfl⟩

end Go.Proofs.YtncnagagigalhaaGreatDoor
