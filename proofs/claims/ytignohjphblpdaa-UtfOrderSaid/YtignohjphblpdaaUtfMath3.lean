/-
  The order of encodings.
-/
import Derived.Test.YtignohjphblpdaaUtfMath2
import Derived.WalkKit
import Derived.Lib.Strings
namespace Go.Proofs.Ytignohjphblpdaa.Utf

def lexI : List Int → List Int → Bool
  | [], [] => false
  | [], _ :: _ => true
  | _ :: _, [] => false
  | a :: x, b :: y => decide (a < b) || (decide (a = b) && lexI x y)

theorem lex_bytes : ∀ (xs ys : List Int), Byt xs → Byt ys → Op.bytesLess (xs.map fun n => UInt8.ofNat n.toNat) (ys.map fun n => UInt8.ofNat n.toNat) = lexI xs ys
  | [], [], _, _ => rfl
  | [], _ :: _, _, _ => rfl
  | _ :: _, [], _, _ => rfl
  | a :: x, b :: y, ha, hb => by
    have ih := lex_bytes x y (fun z hz => ha z (by simp [hz])) (fun z hz => hb z (by simp [hz]))
    have h1 := ha a (by simp)
    have h2 := hb b (by simp)
    have e1 : decide (UInt8.ofNat a.toNat < UInt8.ofNat b.toNat) = decide (a < b) := by
      rw [Bool.eq_iff_iff]
      simp [UInt8.lt_iff_toNat_lt]
      omega
    have e2 : (UInt8.ofNat a.toNat == UInt8.ofNat b.toNat) = decide (a = b) := by
      rw [Bool.eq_iff_iff]
      simp only [beq_iff_eq, decide_eq_true_eq]
      constructor
      · intro h
        have : (UInt8.ofNat a.toNat).toNat = (UInt8.ofNat b.toNat).toNat := by rw [h]
        simp at this
        omega
      · intro h; rw [h]
    simp only [List.map_cons, Op.bytesLess, lexI, ih, e1, e2]

theorem lex_b1 {r s : Int} (hr : sca r = true) (hs : sca s = true) : lexI (b1 r) (b1 s) = decide (r < s) := by
  have h1 := (sca_iff r).1 hr
  have h2 := (sca_iff s).1 hs
  by_cases a1 : r ≤ 127
  · rw [b1_1 a1]
    by_cases c1 : s ≤ 127
    · rw [b1_1 c1]; rw [Bool.eq_iff_iff]; simp [lexI]
    by_cases c2 : s ≤ 2047
    · rw [b1_2 (by omega) c2]; rw [Bool.eq_iff_iff]; simp [lexI]; omega
    by_cases c3 : s ≤ 65535
    · rw [b1_3 (by omega) c3]; rw [Bool.eq_iff_iff]; simp [lexI]; omega
    · rw [b1_4 (by omega)]; rw [Bool.eq_iff_iff]; simp [lexI]; omega
  by_cases a2 : r ≤ 2047
  · rw [b1_2 (by omega) a2]
    by_cases c1 : s ≤ 127
    · rw [b1_1 c1]; rw [Bool.eq_iff_iff]; simp [lexI]; omega
    by_cases c2 : s ≤ 2047
    · rw [b1_2 (by omega) c2]; rw [Bool.eq_iff_iff]; simp [lexI]; omega
    by_cases c3 : s ≤ 65535
    · rw [b1_3 (by omega) c3]; rw [Bool.eq_iff_iff]; simp [lexI]; omega
    · rw [b1_4 (by omega)]; rw [Bool.eq_iff_iff]; simp [lexI]; omega
  by_cases a3 : r ≤ 65535
  · rw [b1_3 (by omega) a3]
    by_cases c1 : s ≤ 127
    · rw [b1_1 c1]; rw [Bool.eq_iff_iff]; simp [lexI]; omega
    by_cases c2 : s ≤ 2047
    · rw [b1_2 (by omega) c2]; rw [Bool.eq_iff_iff]; simp [lexI]; omega
    by_cases c3 : s ≤ 65535
    · rw [b1_3 (by omega) c3]; rw [Bool.eq_iff_iff]; simp [lexI]; omega
    · rw [b1_4 (by omega)]; rw [Bool.eq_iff_iff]; simp [lexI]; omega
  · rw [b1_4 (by omega)]
    by_cases c1 : s ≤ 127
    · rw [b1_1 c1]; rw [Bool.eq_iff_iff]; simp [lexI]; omega
    by_cases c2 : s ≤ 2047
    · rw [b1_2 (by omega) c2]; rw [Bool.eq_iff_iff]; simp [lexI]; omega
    by_cases c3 : s ≤ 65535
    · rw [b1_3 (by omega) c3]; rw [Bool.eq_iff_iff]; simp [lexI]; omega
    · rw [b1_4 (by omega)]; rw [Bool.eq_iff_iff]; simp [lexI]; omega

theorem b1_mono {r s : Int} (h : r ≤ s) : (b1 r).length ≤ (b1 s).length := by
  unfold b1
  repeat' split
  all_goals first | omega | (simp; done)

/-- the bytes of two scalars compare as these do -/
theorem str_less {r s : Int} (hr : sca r = true) (hs : sca s = true) : Op.bytesLess (strOfNums (enc [r])).toList (strOfNums (enc [s])).toList = decide (r < s) := by
  rw [Lib.toList_data, Lib.toList_data, strOfNums_data, strOfNums_data, lex_bytes _ _ (enc_byt _) (enc_byt _), enc_one, enc_one]
  unfold encOne
  rw [fix_of_sca hr, fix_of_sca hs, lex_b1 hr hs]

end Go.Proofs.Ytignohjphblpdaa.Utf
