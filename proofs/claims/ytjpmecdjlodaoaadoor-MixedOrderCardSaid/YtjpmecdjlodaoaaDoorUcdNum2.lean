import Derived.Test.YtjpmecdjlodaoaaDoorRows
import Derived.Test.YtjpmecdjlodaoaaDoorWords
import Derived.WalkKit
import Derived.WalkLawsBesides
import Derived.WalkSpells
import Derived.Outline
import Derived.Lib.Hide
import Derived.Lib.TrimByte
import Derived.Lib.Walk
import Derived.Laws.Strings3
import Derived.Test.YtjpmecdjlodaoaaDoorUcdNamesMath
import Derived.Lib.ConvBytes
import Derived.Laws.Closers25
import Derived.Laws.Closers25b
import Derived.BigCall
import Derived.BigGuard
import Derived.Lib.AtoiErrMem
/-
  The contracts of strings.TrimLeft and strings.TrimRight at one blank.
-/
namespace Go.Proofs.YtjpmecdjlodaoaaDoor
open Go.RowKit

/-- bytes as a string -/
abbrev bst (l : List UInt8) : ByteArray := ⟨l.toArray⟩

theorem bst_size (l : List UInt8) : (bst l).size = l.length := Lib.size_mk l
theorem bst_get (l : List UInt8) (i : Nat) (h : i < (bst l).size) : (bst l)[i]'h = l[i]'(by rw [bst_size] at h; exact h) := rfl

set_option maxRecDepth 100000 in
set_option maxHeartbeats 400000 in
theorem trimLeftByte_any (l : List UInt8) (w : World) :
    Calls Tryd.prog 63 #[.string (bst l), .int .u8 32] w fun e w' => e = .returned (.string (bst (Lib.trimLeftB l 32))) ∧ w = w' := by
  go_enter Tryd.func63, Tryd.ntmps63
  go_wp2
  go_loop [0] (fun v => ∃ m : List UInt8, v = .string (bst m) ∧ Hid (m.length ≤ l.length ∧ Lib.trimLeftB m 32 = Lib.trimLeftB l 32)) (fun v => Lib.strSize v)
  case atStart => exact ⟨l, rfl, Lib.hid ⟨Nat.le_refl _, rfl⟩⟩
  case round =>
    obtain ⟨m, rfl, H⟩ := hrel
    obtain ⟨hm, _⟩ := H.out
    match m, H, hm with
    | [], H, hm =>
      go_wp2
      go_ret
      exact ⟨ret_val (by rw [← H.out.2]; rfl), rfl⟩
    | c :: m, H, hm =>
      have hs : (bst (c :: m)).size = m.length + 1 := bst_size _
      have hg : ∀ h, (bst (c :: m))[0]'h = c := fun h => rfl
      have hx : (bst (c :: m)).extract 1 (m.length + 1) = bst m := by rw [Lib.extract_mk]; simp
      simp at hm
      by_cases hc : c = 32
      · subst hc
        have HT : Hid (m.length ≤ l.length ∧ Lib.trimLeftB m 32 = Lib.trimLeftB l 32) := Lib.hid ⟨by omega, by rw [← H.out.2]; rfl⟩
        clear H
        go_wp2
        go_round
        case rel => exact ⟨m, rfl, HT⟩
        case measure => rw [Lib.strSize_string, Lib.strSize_string, bst_size, bst_size]; simp
      · have hc' : ((c.toNat : Int) == 32) = false := by
          simp
          intro e
          exact hc (UInt8.toNat_inj.1 (by exact_mod_cast e))
        have HT : Hid (Lib.trimLeftB (c :: m) 32 = c :: m) := Lib.hid (by simp [Lib.trimLeftB, hc])
        go_wp2
        go_ret
        exact ⟨ret_val (by rw [← H.out.2, HT.out]; rfl), rfl⟩

theorem trimRightB_snoc (m : List UInt8) : Lib.trimRightB (m ++ [32]) 32 = Lib.trimRightB m 32 := by simp [Lib.trimRightB]
theorem trimRightB_stop (m : List UInt8) (c : UInt8) (h : ¬ c = 32) : Lib.trimRightB (m ++ [c]) 32 = m ++ [c] := by simp [Lib.trimRightB, h]

set_option maxRecDepth 100000 in
set_option maxHeartbeats 400000 in
theorem trimRightByte_any (l : List UInt8) (w : World) (hl : l.length ≤ 1000) :
    Calls Tryd.prog 67 #[.string (bst l), .int .u8 32] w fun e w' => e = .returned (.string (bst (Lib.trimRightB l 32))) ∧ w = w' := by
  go_enter Tryd.func67, Tryd.ntmps67
  go_wp2
  go_loop [0] (fun v => ∃ m : List UInt8, v = .string (bst m) ∧ Hid (m.length ≤ l.length ∧ Lib.trimRightB m 32 = Lib.trimRightB l 32)) (fun v => Lib.strSize v)
  case atStart => exact ⟨l, rfl, Lib.hid ⟨Nat.le_refl _, rfl⟩⟩
  case round =>
    obtain ⟨m, rfl, H⟩ := hrel
    rcases List.eq_nil_or_concat m with rfl | ⟨m, c, rfl⟩
    · go_wp2
      go_ret
      exact ⟨ret_val (by rw [← H.out.2]; rfl), rfl⟩
    · rw [List.concat_eq_append] at H ⊢
      have hm : m.length + 1 ≤ l.length := by have := H.out.1; simp at this; omega
      have hs : (bst (m ++ [c])).size = m.length + 1 := by rw [bst_size]; simp
      have hg : ∀ h, (bst (m ++ [c]))[m.length]'h = c := fun h => by rw [bst_get]; simp
      have hx : (bst (m ++ [c])).extract 0 m.length = bst m := by rw [Lib.extract_mk]; simp
      obtain ⟨t, ht⟩ : ∃ t, bst (m ++ [c]) = t := ⟨_, rfl⟩
      rw [ht] at hs hg hx ⊢
      have HTT := Lib.hid ht
      clear ht
      have hlt : m.length < t.size := by omega
      have hg := hg hlt
      by_cases hc : c = 32
      · subst hc
        have HT : Hid (m.length ≤ l.length ∧ Lib.trimRightB m 32 = Lib.trimRightB l 32) := Lib.hid ⟨by omega, by rw [← H.out.2, trimRightB_snoc]⟩
        clear H
        go_wp2
        go_round
        case rel => exact ⟨m, rfl, HT⟩
        case measure => rw [Lib.strSize_string, Lib.strSize_string, bst_size, hs]; simp
      · have hc' : ((c.toNat : Int) == 32) = false := by
          simp
          intro e
          exact hc (UInt8.toNat_inj.1 (by exact_mod_cast e))
        go_wp2
        go_ret
        exact ⟨ret_val (by rw [← H.out.2, trimRightB_stop m c hc, HTT.out]; rfl), rfl⟩

set_option maxRecDepth 100000 in
set_option maxHeartbeats 400000 in
theorem TrimLeft_any (l : List UInt8) (w : World) (hl : l.length ≤ 1000) :
    Calls Tryd.prog 58 #[.string (bst l), .string ⟨#[32]⟩] w fun e w' => e = .returned (.string (bst (Lib.trimLeftB l 32))) ∧ w = w' := by
  match l, hl with
  | [], hl =>
    go_enter Tryd.func58, Tryd.ntmps58
    go_wp2
    go_ret
    exact ⟨rfl, rfl⟩
  | c :: l, hl =>
    have hs : (bst (c :: l)).size = l.length + 1 := bst_size _
    have he : (bst (c :: l)).toList.isEmpty = false := by
      rw [← decide_eq_emptyBytes]
      exact decide_eq_false (fun h => by rw [h] at hs; simp at hs)
    go_enter Tryd.func58, Tryd.ntmps58
    go_wp2_with (go_at_call 63; refine (trimLeftByte_any (c :: l) _).mono ?_; rintro e w' ⟨rfl, rfl⟩)
    go_ret
    exact ⟨rfl, rfl⟩

set_option maxRecDepth 100000 in
set_option maxHeartbeats 400000 in
theorem TrimRight_any (l : List UInt8) (w : World) (hl : l.length ≤ 1000) :
    Calls Tryd.prog 59 #[.string (bst l), .string ⟨#[32]⟩] w fun e w' => e = .returned (.string (bst (Lib.trimRightB l 32))) ∧ w = w' := by
  match l, hl with
  | [], hl =>
    go_enter Tryd.func59, Tryd.ntmps59
    go_wp2
    go_ret
    exact ⟨rfl, rfl⟩
  | c :: l, hl =>
    have hs : (bst (c :: l)).size = l.length + 1 := bst_size _
    have he : (bst (c :: l)).toList.isEmpty = false := by
      rw [← decide_eq_emptyBytes]
      exact decide_eq_false (fun h => by rw [h] at hs; simp at hs)
    go_enter Tryd.func59, Tryd.ntmps59
    go_wp2_with (go_at_call 67; refine (trimRightByte_any (c :: l) _ hl).mono ?_; rintro e w' ⟨rfl, rfl⟩)
    go_ret
    exact ⟨rfl, rfl⟩

set_option maxRecDepth 100000 in
set_option maxHeartbeats 400000 in
theorem name_any (l : List UInt8) (w : World) (hl : l.length ≤ 1000) :
    Calls Tryd.prog 46 #[.string (bst l)] w fun e w' => e = .returned (.string (bst (Lib.trimRightB l 32))) ∧ w = w' := by
  go_enter Tryd.func46, Tryd.ntmps46
  go_wp2_with (go_at_call 59; refine (TrimRight_any l _ hl).mono ?_; rintro e w' ⟨rfl, rfl⟩)
  go_ret
  exact ⟨rfl, rfl⟩

end Go.Proofs.YtjpmecdjlodaoaaDoor

/-
  The contracts of strconv.ParseInt at short numbers of digits of ten or sixteen, and of ucd.number, first, last.
-/
namespace Go.Proofs.YtjpmecdjlodaoaaDoor
open Go.RowKit Ucd

set_option maxHeartbeats 400000 in
theorem lower_up (c : Int) (w : World) (h0 : 65 ≤ c) (h1 : c ≤ 70) : Calls Tryd.prog 79 #[.int .u8 c] w fun e w' => e = .returned (.int .u8 (c + 32)) ∧ w = w' := by
  go_enter Tryd.func79, Tryd.ntmps79
  go_wp2
  go_ret
  refine ⟨ret_int ?_, rfl⟩
  have : c = 65 ∨ c = 66 ∨ c = 67 ∨ c = 68 ∨ c = 69 ∨ c = 70 := by omega
  rcases this with rfl | rfl | rfl | rfl | rfl | rfl <;> decide

set_option maxRecDepth 100000 in
set_option maxHeartbeats 4000000 in
theorem ParseUint10 (l : List UInt8) (w : World) (hl : isNum 10 l = true) :
    Calls Tryd.prog 70 #[.string (bst l), .int .i64 10, .int .i64 32] w fun e w' => e = .returned (.tuple #[.int .u64 (num 10 0 l), .nilIface]) ∧ Below w.heap.size w w' := by
  have hl' := hl
  unfold isNum at hl'
  simp only [Bool.and_eq_true, decide_eq_true_eq] at hl'
  obtain ⟨⟨h1, h4⟩, hall⟩ := hl'
  have HA := Lib.hid (List.all_eq_true.1 hall)
  clear hall hl
  obtain ⟨t, ht⟩ : ∃ t, bst l = t := ⟨_, rfl⟩
  have hts : t.size = l.length := by rw [← ht, bst_size]
  have hne : t.size ≠ 0 := by omega
  have hemp : t.toList.isEmpty = false := by
    rw [← decide_eq_emptyBytes]
    exact decide_eq_false (fun h => hne (by rw [h]; rfl))
  have hcv := Lib.run_convert_string_bytes (P := Tryd.prog) w 9 24 5 t (u := .string) Tryd.underlying9 Tryd.underlying24 Tryd.underlying5
  have hB : ∀ j, j < l.length → (Lib.bytesWorld w 5 t).cell? ⟨w.heap.size, j, none⟩ = some (.int .u8 (l.getD j 0).toNat) := fun j hj => by
    have := Lib.bytesWorld_cell w 5 t j (by omega)
    rw [← ht] at this ⊢
    exact this
  have hbe := Lib.bytesWorld_below w 5 t
  obtain ⟨W1, hW1⟩ : ∃ W1, W1 = Lib.bytesWorld w 5 t := ⟨_, rfl⟩
  rw [← hW1] at hcv hB hbe
  rw [ht]
  clear hW1 ht
  have HB := Lib.hid hB
  clear hB
  rw [hts] at hcv
  clear hts hne
  go_enter Tryd.func70, Tryd.ntmps70
  go_wp2
  go_loop [12, 13, 101] (fun vu vn vi => ∃ (k : Nat) (a : Int), vu = .bool false ∧ vn = .int .u64 a ∧ vi = .int .i64 k ∧ k ≤ l.length ∧ Hid (∃ acc : Nat, a = (acc : Int) ∧ acc < bd k ∧ num 10 0 l = num 10 acc (l.drop k)))
    (fun _ _ vi => l.length - (intOf vi).toNat)
  case atStart => exact ⟨0, 0, rfl, rfl, rfl, by omega, Lib.hid ⟨0, rfl, by decide, rfl⟩⟩
  case round =>
    obtain ⟨k, a, rfl, rfl, rfl, hk, hh⟩ := hrel
    obtain ⟨acc, ha, hacc, hdec⟩ := hh.out
    clear hh
    have hacc' := bd_le hacc
    have a0 : 0 ≤ a := by omega
    have a1 : a < 65536 := by omega
    by_cases hkn : k < l.length
    · have hc := HB.out k hkn
      have hdrop : l.drop k = l[k]'hkn :: l.drop (k + 1) := List.drop_eq_getElem_cons hkn
      have hget : l.getD k 0 = l[k]'hkn := by simp [List.getD, List.getElem?_eq_getElem hkn]
      have hdg := HA.out _ (List.getElem_mem hkn)
      rw [hdrop] at hdec
      rw [hget] at hc
      generalize l[k]'hkn = c at hc hdec hdg
      have hc256 : c.toNat < 256 := c.toNat_lt
      have hdl := isDig_lt hdg (by decide)
      have HN : Hid (∃ acc' : Nat, a * 10 + (dig c : Int) = (acc' : Int) ∧ acc' < bd (k + 1) ∧ num 10 0 l = num 10 acc' (l.drop (k + 1))) := Lib.hid ⟨acc * 10 + dig c, by rw [ha]; simp, bd_step (by omega) hacc (by decide) hdl, hdec⟩
      clear hdrop hget hdec hacc hacc' ha HB HA
      rcases isDig_cases hdg with ⟨hd0, hd1, hd⟩ | ⟨h16, hd0, hd1, hd⟩
      · have hD : ((dig c : Nat) : Int) = (c.toNat : Int) - 48 := by omega
        rw [hD] at HN
        clear hdg hdl hd hD
        go_wp2
        refine ⟨⟨k + 1, a * 10 + ((c.toNat : Int) - 48), rfl, (by first | rfl | (congr 1; omega)), (by first | rfl | (congr 1; omega)), by omega, HN⟩, by simp [intOf]; omega⟩
      · omega
    · have hkk : k = l.length := by omega
      subst hkk
      have hF : num 10 acc (l.drop l.length) = acc := by rw [List.drop_eq_nil_of_le (by omega)]; rfl
      rw [hF] at hdec
      have HD := Lib.hid hdec
      clear hacc hF a0 a1 hacc' hdec HA HB
      subst ha
      go_wp2
      go_ret2
      exact ⟨by rw [HD.out]; rfl, hbe⟩

set_option maxRecDepth 100000 in
set_option maxHeartbeats 4000000 in
theorem ParseUint16 (l : List UInt8) (w : World) (hl : isNum 16 l = true) :
    Calls Tryd.prog 70 #[.string (bst l), .int .i64 16, .int .i64 32] w fun e w' => e = .returned (.tuple #[.int .u64 (num 16 0 l), .nilIface]) ∧ Below w.heap.size w w' := by
  have hl' := hl
  unfold isNum at hl'
  simp only [Bool.and_eq_true, decide_eq_true_eq] at hl'
  obtain ⟨⟨h1, h4⟩, hall⟩ := hl'
  have HA := Lib.hid (List.all_eq_true.1 hall)
  clear hall hl
  obtain ⟨t, ht⟩ : ∃ t, bst l = t := ⟨_, rfl⟩
  have hts : t.size = l.length := by rw [← ht, bst_size]
  have hne : t.size ≠ 0 := by omega
  have hemp : t.toList.isEmpty = false := by
    rw [← decide_eq_emptyBytes]
    exact decide_eq_false (fun h => hne (by rw [h]; rfl))
  have hcv := Lib.run_convert_string_bytes (P := Tryd.prog) w 9 24 5 t (u := .string) Tryd.underlying9 Tryd.underlying24 Tryd.underlying5
  have hB : ∀ j, j < l.length → (Lib.bytesWorld w 5 t).cell? ⟨w.heap.size, j, none⟩ = some (.int .u8 (l.getD j 0).toNat) := fun j hj => by
    have := Lib.bytesWorld_cell w 5 t j (by omega)
    rw [← ht] at this ⊢
    exact this
  have hbe := Lib.bytesWorld_below w 5 t
  obtain ⟨W1, hW1⟩ : ∃ W1, W1 = Lib.bytesWorld w 5 t := ⟨_, rfl⟩
  rw [← hW1] at hcv hB hbe
  rw [ht]
  clear hW1 ht
  have HB := Lib.hid hB
  clear hB
  rw [hts] at hcv
  clear hts hne
  go_enter Tryd.func70, Tryd.ntmps70
  go_wp2
  go_loop [12, 13, 101] (fun vu vn vi => ∃ (k : Nat) (a : Int), vu = .bool false ∧ vn = .int .u64 a ∧ vi = .int .i64 k ∧ k ≤ l.length ∧ Hid (∃ acc : Nat, a = (acc : Int) ∧ acc < bd k ∧ num 16 0 l = num 16 acc (l.drop k)))
    (fun _ _ vi => l.length - (intOf vi).toNat)
  case atStart => exact ⟨0, 0, rfl, rfl, rfl, by omega, Lib.hid ⟨0, rfl, by decide, rfl⟩⟩
  case round =>
    obtain ⟨k, a, rfl, rfl, rfl, hk, hh⟩ := hrel
    obtain ⟨acc, ha, hacc, hdec⟩ := hh.out
    clear hh
    have hacc' := bd_le hacc
    have a0 : 0 ≤ a := by omega
    have a1 : a < 65536 := by omega
    by_cases hkn : k < l.length
    · have hc := HB.out k hkn
      have hdrop : l.drop k = l[k]'hkn :: l.drop (k + 1) := List.drop_eq_getElem_cons hkn
      have hget : l.getD k 0 = l[k]'hkn := by simp [List.getD, List.getElem?_eq_getElem hkn]
      have hdg := HA.out _ (List.getElem_mem hkn)
      rw [hdrop] at hdec
      rw [hget] at hc
      generalize l[k]'hkn = c at hc hdec hdg
      have hc256 : c.toNat < 256 := c.toNat_lt
      have hdl := isDig_lt hdg (by decide)
      have HN : Hid (∃ acc' : Nat, a * 16 + (dig c : Int) = (acc' : Int) ∧ acc' < bd (k + 1) ∧ num 16 0 l = num 16 acc' (l.drop (k + 1))) := Lib.hid ⟨acc * 16 + dig c, by rw [ha]; simp, bd_step (by omega) hacc (by decide) hdl, hdec⟩
      clear hdrop hget hdec hacc hacc' ha HB HA
      rcases isDig_cases hdg with ⟨hd0, hd1, hd⟩ | ⟨h16, hd0, hd1, hd⟩
      · have hD : ((dig c : Nat) : Int) = (c.toNat : Int) - 48 := by omega
        rw [hD] at HN
        clear hdg hdl hd hD
        go_wp2
        refine ⟨⟨k + 1, a * 16 + ((c.toNat : Int) - 48), rfl, (by first | rfl | (congr 1; omega)), (by first | rfl | (congr 1; omega)), by omega, HN⟩, by simp [intOf]; omega⟩
      · have hD : ((dig c : Nat) : Int) = (c.toNat : Int) + 32 - 97 + 10 := by omega
        rw [hD] at HN
        clear hdg hdl hd hD h16
        go_wp2_with (go_at_call 79; refine (lower_up _ _ (by omega) (by omega)).mono ?_; rintro e w' ⟨rfl, rfl⟩)
        refine ⟨⟨k + 1, _, rfl, rfl, (by first | rfl | (congr 1; omega)), by omega, HN⟩, by simp [intOf]; omega⟩
    · have hkk : k = l.length := by omega
      subst hkk
      have hF : num 16 acc (l.drop l.length) = acc := by rw [List.drop_eq_nil_of_le (by omega)]; rfl
      rw [hF] at hdec
      have HD := Lib.hid hdec
      clear hacc hF a0 a1 hacc' hdec HA HB
      subst ha
      go_wp2
      go_ret2
      exact ⟨by rw [HD.out]; rfl, hbe⟩

end Go.Proofs.YtjpmecdjlodaoaaDoor

/-
  The contracts of strconv.ParseInt and of ucd.number at short numbers.
-/
namespace Go.Proofs.YtjpmecdjlodaoaaDoor
open Go.RowKit Ucd

set_option maxRecDepth 100000 in
set_option maxHeartbeats 4000000 in
theorem ParseIntI10 (l : List UInt8) (w : World) (hl : isNum 10 l = true) :
    Calls Tryd.prog 61 #[.string (bst l), .int .i64 10, .int .i64 32] w fun e w' => e = .returned (.tuple #[.int .i64 (num 10 0 l), .nilIface]) ∧ Below w.heap.size w w' := by
  have hl' := hl
  unfold isNum at hl'
  simp only [Bool.and_eq_true, decide_eq_true_eq] at hl'
  obtain ⟨⟨h1, h4⟩, hall⟩ := hl'
  cases l with
  | nil => simp at h1
  | cons c m =>
    have hP := ParseUint10 (c :: m) w hl
    have hn := num_small (b := 10) (by decide) hl
    obtain ⟨n, hn'⟩ : ∃ n : Int, n = (num 10 0 (c :: m) : Int) := ⟨_, rfl⟩
    rw [← hn'] at hP ⊢
    have n0 : 0 ≤ n := by omega
    have n1 : n < 65536 := by omega
    clear hn hn'
    rw [List.all_cons, Bool.and_eq_true] at hall
    have hdg := isDig_cases hall.1
    have c0 : 48 ≤ c.toNat := by omega
    have HP := Lib.hid hP
    clear hall hdg hl hP
    have hg : ∀ h, (bst (c :: m))[0]'h = c := fun h => rfl
    have hs : (bst (c :: m)).size = m.length + 1 := bst_size _
    obtain ⟨t, ht⟩ : ∃ t, bst (c :: m) = t := ⟨_, rfl⟩
    rw [ht] at hs hg HP ⊢
    have hs0 : 0 < t.size := by omega
    have hg := hg hs0
    have hemp : t.toList.isEmpty = false := by
      rw [← decide_eq_emptyBytes]
      exact decide_eq_false (fun h => by rw [h] at hs; simp at hs)
    have i1 : ((c.toNat : Int) == 43) = false := by simp; omega
    have i2 : ((c.toNat : Int) == 45) = false := by simp; omega
    clear ht
    go_enter Tryd.func61, Tryd.ntmps61
    go_wp2_with (go_at_call 70; ((with_reducible refine (Hid.out HP).mono ?_); rintro e w' ⟨rfl, hb⟩))
    go_ret2
    exact ⟨rfl, hb⟩

set_option maxRecDepth 100000 in
set_option maxHeartbeats 4000000 in
theorem ParseInt10 (l : List UInt8) (w : World) (hl : isNum 10 l = true) :
    Calls Tryd.prog 57 #[.string (bst l), .int .i64 10, .int .i64 32] w fun e w' => e = .returned (.tuple #[.int .i64 (num 10 0 l), .nilIface]) ∧ Below w.heap.size w w' := by
  go_enter Tryd.func57, Tryd.ntmps57
  go_wp2_with (go_at_call 61; refine (ParseIntI10 l _ hl).mono ?_; rintro e w' ⟨rfl, hb⟩)
  go_ret2
  exact ⟨rfl, hb⟩

set_option maxRecDepth 100000 in
set_option maxHeartbeats 4000000 in
theorem number10 (l : List UInt8) (w : World) (hs : l.length ≤ 1000) (hl : isNum 10 (Lib.trimLeftB l 32) = true) :
    Calls Tryd.prog 44 #[.string (bst l), .int .i64 10] w fun e w' => e = .returned (.int .i64 (num 10 0 (Lib.trimLeftB l 32))) ∧ Below w.heap.size w w' := by
  go_enter Tryd.func44, Tryd.ntmps44
  go_wp2_with (first | (go_at_call 58; refine (TrimLeft_any l _ hs).mono ?_; rintro e w' ⟨rfl, rfl⟩) | (go_at_call 57; refine (ParseInt10 _ _ hl).mono ?_; rintro e w' ⟨rfl, hb⟩))
  go_ret
  exact ⟨rfl, hb⟩


set_option maxRecDepth 100000 in
set_option maxHeartbeats 4000000 in
theorem ParseIntI16 (l : List UInt8) (w : World) (hl : isNum 16 l = true) :
    Calls Tryd.prog 61 #[.string (bst l), .int .i64 16, .int .i64 32] w fun e w' => e = .returned (.tuple #[.int .i64 (num 16 0 l), .nilIface]) ∧ Below w.heap.size w w' := by
  have hl' := hl
  unfold isNum at hl'
  simp only [Bool.and_eq_true, decide_eq_true_eq] at hl'
  obtain ⟨⟨h1, h4⟩, hall⟩ := hl'
  cases l with
  | nil => simp at h1
  | cons c m =>
    have hP := ParseUint16 (c :: m) w hl
    have hn := num_small (b := 16) (by decide) hl
    obtain ⟨n, hn'⟩ : ∃ n : Int, n = (num 16 0 (c :: m) : Int) := ⟨_, rfl⟩
    rw [← hn'] at hP ⊢
    have n0 : 0 ≤ n := by omega
    have n1 : n < 65536 := by omega
    clear hn hn'
    rw [List.all_cons, Bool.and_eq_true] at hall
    have hdg := isDig_cases hall.1
    have c0 : 48 ≤ c.toNat := by omega
    have HP := Lib.hid hP
    clear hall hdg hl hP
    have hg : ∀ h, (bst (c :: m))[0]'h = c := fun h => rfl
    have hs : (bst (c :: m)).size = m.length + 1 := bst_size _
    obtain ⟨t, ht⟩ : ∃ t, bst (c :: m) = t := ⟨_, rfl⟩
    rw [ht] at hs hg HP ⊢
    have hs0 : 0 < t.size := by omega
    have hg := hg hs0
    have hemp : t.toList.isEmpty = false := by
      rw [← decide_eq_emptyBytes]
      exact decide_eq_false (fun h => by rw [h] at hs; simp at hs)
    have i1 : ((c.toNat : Int) == 43) = false := by simp; omega
    have i2 : ((c.toNat : Int) == 45) = false := by simp; omega
    clear ht
    go_enter Tryd.func61, Tryd.ntmps61
    go_wp2_with (go_at_call 70; ((with_reducible refine (Hid.out HP).mono ?_); rintro e w' ⟨rfl, hb⟩))
    go_ret2
    exact ⟨rfl, hb⟩

set_option maxRecDepth 100000 in
set_option maxHeartbeats 4000000 in
theorem ParseInt16 (l : List UInt8) (w : World) (hl : isNum 16 l = true) :
    Calls Tryd.prog 57 #[.string (bst l), .int .i64 16, .int .i64 32] w fun e w' => e = .returned (.tuple #[.int .i64 (num 16 0 l), .nilIface]) ∧ Below w.heap.size w w' := by
  go_enter Tryd.func57, Tryd.ntmps57
  go_wp2_with (go_at_call 61; refine (ParseIntI16 l _ hl).mono ?_; rintro e w' ⟨rfl, hb⟩)
  go_ret2
  exact ⟨rfl, hb⟩

set_option maxRecDepth 100000 in
set_option maxHeartbeats 4000000 in
theorem number16 (l : List UInt8) (w : World) (hs : l.length ≤ 1000) (hl : isNum 16 (Lib.trimLeftB l 32) = true) :
    Calls Tryd.prog 44 #[.string (bst l), .int .i64 16] w fun e w' => e = .returned (.int .i64 (num 16 0 (Lib.trimLeftB l 32))) ∧ Below w.heap.size w w' := by
  go_enter Tryd.func44, Tryd.ntmps44
  go_wp2_with (first | (go_at_call 58; refine (TrimLeft_any l _ hs).mono ?_; rintro e w' ⟨rfl, rfl⟩) | (go_at_call 57; refine (ParseInt16 _ _ hl).mono ?_; rintro e w' ⟨rfl, hb⟩))
  go_ret
  exact ⟨rfl, hb⟩

end Go.Proofs.YtjpmecdjlodaoaaDoor
