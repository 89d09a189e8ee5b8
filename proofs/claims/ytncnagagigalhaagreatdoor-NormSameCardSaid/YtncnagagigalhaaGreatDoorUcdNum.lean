/-
  The contracts of strconv.ParseInt at short numbers of digits of ten or sixteen, and of ucd.number, first, last.
-/
import Derived.Test.YtncnagagigalhaaGreatDoorUcdTrim
import Derived.Test.YtncnagagigalhaaGreatDoorUcdNumMath
import Derived.Lib.ConvBytes
import Derived.Laws.Closers25
import Derived.Laws.Closers25b
import Derived.BigCall
import Derived.BigGuard
import Derived.Lib.AtoiErrMem
namespace Go.Proofs.YtncnagagigalhaaGreatDoor
open Go.RowKit Ucd

set_option maxHeartbeats 400000 in
theorem lower_up (c : Int) (w : World) (h0 : 65 ≤ c) (h1 : c ≤ 70) : Calls Tryz.prog 98 #[.int .u8 c] w fun e w' => e = .returned (.int .u8 (c + 32)) ∧ w = w' := by
  go_enter Tryz.func98, Tryz.ntmps98
  go_wp2
  go_ret
  refine ⟨ret_int ?_, rfl⟩
  have : c = 65 ∨ c = 66 ∨ c = 67 ∨ c = 68 ∨ c = 69 ∨ c = 70 := by omega
  rcases this with rfl | rfl | rfl | rfl | rfl | rfl <;> decide

set_option maxRecDepth 100000 in
set_option maxHeartbeats 4000000 in
theorem ParseUint10 (l : List UInt8) (w : World) (hl : isNum 10 l = true) :
    Calls Tryz.prog 88 #[.string (bst l), .int .i64 10, .int .i64 32] w fun e w' => e = .returned (.tuple #[.int .u64 (num 10 0 l), .nilIface]) ∧ Below w.heap.size w w' := by
  have hl' := hl
  unfold isNum at hl'
  simp only [Bool.and_eq_true, decide_eq_true_eq] at hl'
  obtain ⟨⟨h1, h4⟩, hall⟩ := hl'
  have HA := Lib.hid (List.all_eq_true.1 hall)
  clear hall hl
  obtain ⟨t, ht⟩ : ∃ t, bst l = t := ⟨_, rfl⟩
  have hts : t.size = l.length := by rw [← ht, bst_size]
  have hne : t.size ≠ 0 := by omega
  have hemp : t.toList.isEmpty = false := by
    rw [← decide_eq_emptyBytes]
    exact decide_eq_false (fun h => hne (by rw [h]; rfl))
  have hcv := Lib.run_convert_string_bytes (P := Tryz.prog) w 9 37 5 t (u := .string) Tryz.underlying9 Tryz.underlying37 Tryz.underlying5
  have hB : ∀ j, j < l.length → (Lib.bytesWorld w 5 t).cell? ⟨w.heap.size, j, none⟩ = some (.int .u8 (l.getD j 0).toNat) := fun j hj => by
    have := Lib.bytesWorld_cell w 5 t j (by omega)
    rw [← ht] at this ⊢
    exact this
  have hbe := Lib.bytesWorld_below w 5 t
  obtain ⟨W1, hW1⟩ : ∃ W1, W1 = Lib.bytesWorld w 5 t := ⟨_, rfl⟩
  rw [← hW1] at hcv hB hbe
  rw [ht]
  clear hW1 ht
  have HB := Lib.hid hB
  clear hB
  rw [hts] at hcv
  clear hts hne
  go_enter Tryz.func88, Tryz.ntmps88
  go_wp2
  go_loop [12, 13, 101] (fun vu vn vi => ∃ (k : Nat) (a : Int), vu = .bool false ∧ vn = .int .u64 a ∧ vi = .int .i64 k ∧ k ≤ l.length ∧ Hid (∃ acc : Nat, a = (acc : Int) ∧ acc < bd k ∧ num 10 0 l = num 10 acc (l.drop k)))
    (fun _ _ vi => l.length - (intOf vi).toNat)
  case atStart => exact ⟨0, 0, rfl, rfl, rfl, by omega, Lib.hid ⟨0, rfl, by decide, rfl⟩⟩
  case round =>
    obtain ⟨k, a, rfl, rfl, rfl, hk, hh⟩ := hrel
    obtain ⟨acc, ha, hacc, hdec⟩ := hh.out
    clear hh
    have hacc' := bd_le hacc
    have a0 : 0 ≤ a := by omega
    have a1 : a < 65536 := by omega
    by_cases hkn : k < l.length
    · have hc := HB.out k hkn
      have hdrop : l.drop k = l[k]'hkn :: l.drop (k + 1) := List.drop_eq_getElem_cons hkn
      have hget : l.getD k 0 = l[k]'hkn := by simp [List.getD, List.getElem?_eq_getElem hkn]
      have hdg := HA.out _ (List.getElem_mem hkn)
      rw [hdrop] at hdec
      rw [hget] at hc
      generalize l[k]'hkn = c at hc hdec hdg
      have hc256 : c.toNat < 256 := c.toNat_lt
      have hdl := isDig_lt hdg (by decide)
      have HN : Hid (∃ acc' : Nat, a * 10 + (dig c : Int) = (acc' : Int) ∧ acc' < bd (k + 1) ∧ num 10 0 l = num 10 acc' (l.drop (k + 1))) := Lib.hid ⟨acc * 10 + dig c, by rw [ha]; simp, bd_step (by omega) hacc (by decide) hdl, hdec⟩
      clear hdrop hget hdec hacc hacc' ha HB HA
      rcases isDig_cases hdg with ⟨hd0, hd1, hd⟩ | ⟨h16, hd0, hd1, hd⟩
      · have hD : ((dig c : Nat) : Int) = (c.toNat : Int) - 48 := by omega
        rw [hD] at HN
        clear hdg hdl hd hD
        go_wp2
        refine ⟨⟨k + 1, a * 10 + ((c.toNat : Int) - 48), rfl, (by first | rfl | (congr 1; omega)), (by first | rfl | (congr 1; omega)), by omega, HN⟩, by simp [intOf]; omega⟩
      · omega
    · have hkk : k = l.length := by omega
      subst hkk
      have hF : num 10 acc (l.drop l.length) = acc := by rw [List.drop_eq_nil_of_le (by omega)]; rfl
      rw [hF] at hdec
      have HD := Lib.hid hdec
      clear hacc hF a0 a1 hacc' hdec HA HB
      subst ha
      go_wp2
      go_ret2
      exact ⟨by rw [HD.out]; rfl, hbe⟩

set_option maxRecDepth 100000 in
set_option maxHeartbeats 4000000 in
theorem ParseUint16 (l : List UInt8) (w : World) (hl : isNum 16 l = true) :
    Calls Tryz.prog 88 #[.string (bst l), .int .i64 16, .int .i64 32] w fun e w' => e = .returned (.tuple #[.int .u64 (num 16 0 l), .nilIface]) ∧ Below w.heap.size w w' := by
  have hl' := hl
  unfold isNum at hl'
  simp only [Bool.and_eq_true, decide_eq_true_eq] at hl'
  obtain ⟨⟨h1, h4⟩, hall⟩ := hl'
  have HA := Lib.hid (List.all_eq_true.1 hall)
  clear hall hl
  obtain ⟨t, ht⟩ : ∃ t, bst l = t := ⟨_, rfl⟩
  have hts : t.size = l.length := by rw [← ht, bst_size]
  have hne : t.size ≠ 0 := by omega
  have hemp : t.toList.isEmpty = false := by
    rw [← decide_eq_emptyBytes]
    exact decide_eq_false (fun h => hne (by rw [h]; rfl))
  have hcv := Lib.run_convert_string_bytes (P := Tryz.prog) w 9 37 5 t (u := .string) Tryz.underlying9 Tryz.underlying37 Tryz.underlying5
  have hB : ∀ j, j < l.length → (Lib.bytesWorld w 5 t).cell? ⟨w.heap.size, j, none⟩ = some (.int .u8 (l.getD j 0).toNat) := fun j hj => by
    have := Lib.bytesWorld_cell w 5 t j (by omega)
    rw [← ht] at this ⊢
    exact this
  have hbe := Lib.bytesWorld_below w 5 t
  obtain ⟨W1, hW1⟩ : ∃ W1, W1 = Lib.bytesWorld w 5 t := ⟨_, rfl⟩
  rw [← hW1] at hcv hB hbe
  rw [ht]
  clear hW1 ht
  have HB := Lib.hid hB
  clear hB
  rw [hts] at hcv
  clear hts hne
  go_enter Tryz.func88, Tryz.ntmps88
  go_wp2
  go_loop [12, 13, 101] (fun vu vn vi => ∃ (k : Nat) (a : Int), vu = .bool false ∧ vn = .int .u64 a ∧ vi = .int .i64 k ∧ k ≤ l.length ∧ Hid (∃ acc : Nat, a = (acc : Int) ∧ acc < bd k ∧ num 16 0 l = num 16 acc (l.drop k)))
    (fun _ _ vi => l.length - (intOf vi).toNat)
  case atStart => exact ⟨0, 0, rfl, rfl, rfl, by omega, Lib.hid ⟨0, rfl, by decide, rfl⟩⟩
  case round =>
    obtain ⟨k, a, rfl, rfl, rfl, hk, hh⟩ := hrel
    obtain ⟨acc, ha, hacc, hdec⟩ := hh.out
    clear hh
    have hacc' := bd_le hacc
    have a0 : 0 ≤ a := by omega
    have a1 : a < 65536 := by omega
    by_cases hkn : k < l.length
    · have hc := HB.out k hkn
      have hdrop : l.drop k = l[k]'hkn :: l.drop (k + 1) := List.drop_eq_getElem_cons hkn
      have hget : l.getD k 0 = l[k]'hkn := by simp [List.getD, List.getElem?_eq_getElem hkn]
      have hdg := HA.out _ (List.getElem_mem hkn)
      rw [hdrop] at hdec
      rw [hget] at hc
      generalize l[k]'hkn = c at hc hdec hdg
      have hc256 : c.toNat < 256 := c.toNat_lt
      have hdl := isDig_lt hdg (by decide)
      have HN : Hid (∃ acc' : Nat, a * 16 + (dig c : Int) = (acc' : Int) ∧ acc' < bd (k + 1) ∧ num 16 0 l = num 16 acc' (l.drop (k + 1))) := Lib.hid ⟨acc * 16 + dig c, by rw [ha]; simp, bd_step (by omega) hacc (by decide) hdl, hdec⟩
      clear hdrop hget hdec hacc hacc' ha HB HA
      rcases isDig_cases hdg with ⟨hd0, hd1, hd⟩ | ⟨h16, hd0, hd1, hd⟩
      · have hD : ((dig c : Nat) : Int) = (c.toNat : Int) - 48 := by omega
        rw [hD] at HN
        clear hdg hdl hd hD
        go_wp2
        refine ⟨⟨k + 1, a * 16 + ((c.toNat : Int) - 48), rfl, (by first | rfl | (congr 1; omega)), (by first | rfl | (congr 1; omega)), by omega, HN⟩, by simp [intOf]; omega⟩
      · have hD : ((dig c : Nat) : Int) = (c.toNat : Int) + 32 - 97 + 10 := by omega
        rw [hD] at HN
        clear hdg hdl hd hD h16
        go_wp2_with (go_at_call 98; refine (lower_up _ _ (by omega) (by omega)).mono ?_; rintro e w' ⟨rfl, rfl⟩)
        refine ⟨⟨k + 1, _, rfl, rfl, (by first | rfl | (congr 1; omega)), by omega, HN⟩, by simp [intOf]; omega⟩
    · have hkk : k = l.length := by omega
      subst hkk
      have hF : num 16 acc (l.drop l.length) = acc := by rw [List.drop_eq_nil_of_le (by omega)]; rfl
      rw [hF] at hdec
      have HD := Lib.hid hdec
      clear hacc hF a0 a1 hacc' hdec HA HB
      subst ha
      go_wp2
      go_ret2
      exact ⟨by rw [HD.out]; rfl, hbe⟩

end Go.Proofs.YtncnagagigalhaaGreatDoor
