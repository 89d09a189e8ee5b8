/-
  Bit operations on int32 and uint8 as arithmetic.
-/
import Derived.Laws.BitsAllLaws
import Derived.Laws.BitsLemmas
import Derived.WalkKit
namespace Go.Proofs.YtjkfppgekepbeaaDoor
set_option maxRecDepth 100000
open Go.RowKit

theorem ofInt32 (a : Nat) (ha : a < 2147483648) : (BitVec.ofInt 32 (a : Int)).toNat = a := by
  rw [BitVec.ofInt_natCast, BitVec.toNat_ofNat]
  exact Nat.mod_eq_of_lt (by omega)
theorem wrap_i32_id (x : Int) (h0 : -2147483648 ≤ x) (h1 : x ≤ 2147483647) : IntKind.i32.wrap x = x := by
  simp [IntKind.wrap, IntKind.bits, IntKind.signed]
  omega
theorem i32_andN (a b : Nat) (ha : a < 2147483648) (hb : b < 2147483648) : bits .and .i32 (a : Int) (b : Int) = ((a &&& b : Nat) : Int) := by
  have hx : a &&& b < 2 ^ 31 := Nat.and_lt_two_pow _ (by omega)
  show IntKind.i32.wrap ((BitVec.ofInt 32 (a : Int) &&& BitVec.ofInt 32 (b : Int)).toNat : Int) = _
  rw [BitVec.toNat_and, ofInt32 a ha, ofInt32 b hb]
  exact wrap_i32_id _ (by omega) (by omega)
theorem i32_orN (a b : Nat) (ha : a < 2147483648) (hb : b < 2147483648) : bits .or .i32 (a : Int) (b : Int) = ((a ||| b : Nat) : Int) := by
  have hx : a ||| b < 2 ^ 31 := Nat.or_lt_two_pow (by omega) (by omega)
  show IntKind.i32.wrap ((BitVec.ofInt 32 (a : Int) ||| BitVec.ofInt 32 (b : Int)).toNat : Int) = _
  rw [BitVec.toNat_or, ofInt32 a ha, ofInt32 b hb]
  exact wrap_i32_id _ (by omega) (by omega)

theorem i32_and63 (r : Int) (h0 : 0 ≤ r) (h1 : r < 2147483648) : bits .and .i32 r 63 = r % 64 := by
  obtain ⟨a, rfl⟩ := Int.eq_ofNat_of_zero_le h0
  have h := i32_andN a 63 (by omega) (by omega)
  rw [nat_mask6] at h
  exact h.trans (by omega)
theorem u8_andmask (m x : Int) (k : Nat) (hm : m = 2 ^ k - 1) (hk : k ≤ 8) (h0 : 0 ≤ x) (h1 : x < 256) : bits .and .u8 x m = x % 2 ^ k := by
  obtain ⟨a, rfl⟩ := Int.eq_ofNat_of_zero_le h0
  have hp : (2 : Nat) ^ k ≤ 2 ^ 8 := Nat.pow_le_pow_right (by omega) hk
  have hp0 : 0 < (2 : Nat) ^ k := Nat.two_pow_pos k
  have em : m = ((2 ^ k - 1 : Nat) : Int) := by
    rw [hm, Int.natCast_sub hp0, Int.natCast_pow]
    rfl
  rw [em, u8_and_nat a (2 ^ k - 1) (by omega) (by omega), Nat.and_two_pow_sub_one_eq_mod]
  rw [Int.natCast_emod, Int.natCast_pow]
  rfl
theorem u8_and63 (x : Int) (h0 : 0 ≤ x) (h1 : x < 256) : bits .and .u8 x 63 = x % 64 := u8_andmask 63 x 6 (by decide) (by omega) h0 h1
theorem u8_and31 (x : Int) (h0 : 0 ≤ x) (h1 : x < 256) : bits .and .u8 x 31 = x % 32 := u8_andmask 31 x 5 (by decide) (by omega) h0 h1
theorem u8_and15 (x : Int) (h0 : 0 ≤ x) (h1 : x < 256) : bits .and .u8 x 15 = x % 16 := u8_andmask 15 x 4 (by decide) (by omega) h0 h1
theorem u8_and7 (x : Int) (h0 : 0 ≤ x) (h1 : x < 256) : bits .and .u8 x 7 = x % 8 := u8_andmask 7 x 3 (by decide) (by omega) h0 h1
/-- a number of which the lowest k bits are free, and one of k bits -/
theorem u8_join (k : Nat) (x y : Int) (hx0 : 0 ≤ x) (hx1 : x < 256) (hy0 : 0 ≤ y) (hk : k ≤ 8) (hxm : x % 2 ^ k = 0) (hy1 : y < 2 ^ k) : bits .or .u8 x y = x + y := by
  obtain ⟨a, rfl⟩ := Int.eq_ofNat_of_zero_le hx0
  obtain ⟨b, rfl⟩ := Int.eq_ofNat_of_zero_le hy0
  have hp : (2 : Nat) ^ k ≤ 2 ^ 8 := Nat.pow_le_pow_right (by omega) hk
  have ep : ((2 ^ k : Nat) : Int) = (2 : Int) ^ k := by rw [Int.natCast_pow]; rfl
  rw [← ep] at hxm hy1
  rw [u8_or_nat a b (by omega) (by omega), nat_join k a b (by omega) (by omega)]
  omega
theorem i32_join (k : Nat) (x y : Int) (hx0 : 0 ≤ x) (hx1 : x < 2147483648) (hy0 : 0 ≤ y) (hy2 : y < 2147483648) (hxm : x % 2 ^ k = 0) (hy1 : y < 2 ^ k) : bits .or .i32 x y = x + y := by
  obtain ⟨a, rfl⟩ := Int.eq_ofNat_of_zero_le hx0
  obtain ⟨b, rfl⟩ := Int.eq_ofNat_of_zero_le hy0
  have ep : ((2 ^ k : Nat) : Int) = (2 : Int) ^ k := by rw [Int.natCast_pow]; rfl
  rw [← ep] at hxm hy1
  rw [i32_orN a b (by omega) (by omega), nat_join k a b (by omega) (by omega)]
  omega

end Go.Proofs.YtjkfppgekepbeaaDoor
