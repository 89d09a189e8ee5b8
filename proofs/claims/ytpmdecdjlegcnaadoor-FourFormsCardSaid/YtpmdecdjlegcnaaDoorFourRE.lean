/-
  fasciaref12: Show.
-/
import Derived.Test.YtpmdecdjlegcnaaDoorFourRA
import Derived.Test.YtpmdecdjlegcnaaDoorFourM
import Derived.Laws.BytesArg
import Derived.Laws.BytesString
namespace Go.Proofs.YtpmdecdjlegcnaaDoor.Fou
open Go.RowKit

theorem conv_byte (c : Int) (w : World) : (convert 44 9 (.slice (some ⟨w.heap.size, 0, none⟩) 1 1)).run Tryd.prog (w.alloc (.cells #[.int .u8 c] 5)) = .ok (.string (strOfNums [c])) (w.alloc (.cells #[.int .u8 c] 5)) :=
  run_convert_bytes_arg _ 44 5 Tryd.underlying44 Tryd.underlying5 w.heap.size 0 1 1 [c] (by simp) (fun i hi => by
    obtain rfl : i = 0 := by omega
    exact news_new w #[.int .u8 c] 5 [.int .u8 c] rfl 0 (.int .u8 c) rfl) 9 Tryd.underlying9
theorem str_one (c : Int) : dl (strOfNums [c]) = [UInt8.ofNat c.toNat] := by rw [dl, strOfNums_data]; rfl
theorem str_size (c : Int) : (strOfNums [c]).size = 1 := by rw [Lib.size_eq]; exact congrArg List.length (str_one c)
theorem str_digit {c : Int} {d : Nat} (h : c = 48 + (d : Int)) (hd : d < 10) : dl (strOfNums [c]) = [dgB d] := by
  rw [str_one, dgB, if_pos hd, h]
  rfl
theorem app_dl (p q : ByteArray) : dl (p ++ q) = dl p ++ dl q := by
  rw [dl, ByteArray.data_append, Array.toList_append]
theorem digs_one {b : Nat} (h : b < 10) : digs 10 b = [dgB (b % 10)] := by rw [digs_lt h, Nat.mod_eq_of_lt h]
theorem digs_two {b : Nat} (h1 : ¬ b < 10) (h2 : b < 100) : digs 10 b = [dgB (b / 10 % 10), dgB (b % 10)] := by
  rw [digs_ge (by decide) h1, digs_lt (by omega), Nat.mod_eq_of_lt (show b / 10 < 10 by omega)]
  rfl
theorem digs_three {b : Nat} (h1 : ¬ b < 100) (h2 : b < 256) : digs 10 b = [dgB (b / 100), dgB (b / 10 % 10), dgB (b % 10)] := by
  rw [digs_ge (by decide) (by omega), digs_ge (by decide) (show ¬ b / 10 < 10 by omega), digs_lt (by omega), Nat.div_div_eq_div_mul]
  rfl
/-- the first bytes -/
def pre (x k : Nat) : List UInt8 := Lib.join ((bts x).take k) [46]
theorem pre_zero (x : Nat) : pre x 0 = [] := rfl
theorem pre_one (x : Nat) : pre x 1 = digs 10 (byt x 0) := by simp [pre, bts, Lib.join, List.intercalate]
theorem pre_step (x : Nat) : ∀ k, 0 < k → k < 4 → pre x (k + 1) = pre x k ++ [46] ++ digs 10 (byt x k)
  | 1, _, _ => by simp [pre, bts, Lib.join, List.intercalate, List.intersperse]
  | 2, _, _ => by simp [pre, bts, Lib.join, List.intercalate, List.intersperse]
  | 3, _, _ => by simp [pre, bts, Lib.join, List.intercalate, List.intersperse]
theorem pre_len (x : Nat) : ∀ k, k ≤ 4 → (pre x k).length ≤ 4 * k
  | 0, _ => by rw [pre_zero]; simp
  | 1, _ => by
    rw [pre_one]
    have := digs_len (b := 10) (by decide) 2 (byt x 0) (Nat.lt_of_lt_of_le (byt_lt _ _) (by decide))
    omega
  | k + 2, h => by
    rw [pre_step x (k + 1) (by omega) (by omega), List.length_append, List.length_append, List.length_singleton]
    have h1 := pre_len x (k + 1) (by omega)
    have := digs_len (b := 10) (by decide) 2 (byt x (k + 1)) (Nat.lt_of_lt_of_le (byt_lt _ _) (by decide))
    omega
theorem pre_four (x : Nat) : pre x 4 = shw x := rfl
def xk (x k : Nat) : Nat := x * 256 ^ k % 4294967296
theorem xk_lt (x k : Nat) : xk x k < 4294967296 := Nat.mod_lt _ (by decide)
theorem xk_step (x k : Nat) : xk x k * 256 % 4294967296 = xk x (k + 1) := by
  unfold xk
  rw [Nat.pow_succ, ← Nat.mul_assoc, Nat.mod_mul_mod]
theorem xk_byt {x k : Nat} (hx : x < 4294967296) (hk : k < 4) : xk x k / 16777216 % 256 = byt x k := by
  have hc : k = 0 ∨ k = 1 ∨ k = 2 ∨ k = 3 := by omega
  unfold xk byt
  rcases hc with rfl | rfl | rfl | rfl <;> simp <;> omega
set_option maxRecDepth 100000 in
set_option maxHeartbeats 4000000 in
theorem refShow_any (x : Nat) (hx : x < 4294967296) (w : World) : Calls Tryd.prog 16 #[.int .u32 (x : Int)] w (fun e w' => e = .returned (.string (bs (shw x))) ∧ Below w.heap.size w w') := by
  have HX := Lib.hid hx
  have h00 : x = xk x 0 := by unfold xk; rw [Nat.pow_zero, Nat.mul_one, Nat.mod_eq_of_lt hx]
  have H00 := Lib.hid h00
  have HCB := Lib.hid conv_byte
  have HS1 := Lib.hid str_size
  clear hx h00
  go_enter Tryd.func16, Tryd.ntmps16
  go_wp2_with fail
  go_loopg [0, 3, 4] 4 (fun m s0 s3 s4 wr => ∃ (k X : Nat) (t : ByteArray), s4 = .int .i64 (k : Int) ∧ m = 4 - k ∧ s0 = .int .u32 (X : Int) ∧ s3 = .string t ∧ k ≤ 4 ∧ Hid (X = xk x k) ∧ Hid (dl t = pre x k) ∧ Below w.heap.size w wr)
  case atStart => exact ⟨0, x, ⟨#[]⟩, rfl, rfl, rfl, rfl, by decide, H00, Lib.hid rfl, Below.refl _ _⟩
  case round =>
    obtain ⟨k, X, t, rfl, rfl, rfl, rfl, hk, HXK, HT, hB⟩ := hrel
    have htz : t.size ≤ 16 := by
      rw [Lib.size_eq]
      show (dl t).length ≤ _
      rw [HT.out]
      have := pre_len x k hk
      omega
    by_cases hlt : k < 4
    · have hX : X < 4294967296 := by rw [HXK.out]; exact xk_lt _ _
      have hbyt : X / 16777216 % 256 = byt x k := by rw [HXK.out]; exact xk_byt HX.out hlt
      have HX2 : Hid (X * 256 % 4294967296 = xk x (k + 1)) := Lib.hid (by rw [HXK.out]; exact xk_step x k)
      obtain ⟨b, hb⟩ : ∃ b, byt x k = b := ⟨_, rfl⟩
      have hb256 : b < 256 := by rw [← hb]; exact byt_lt _ _
      rw [hb] at hbyt
      have HPS : Hid (0 < k → pre x (k + 1) = pre x k ++ [46] ++ digs 10 b) := Lib.hid (fun h => by rw [← hb]; exact pre_step x k h hlt)
      have HP0 : Hid (k = 0 → pre x (k + 1) = digs 10 b) := Lib.hid (fun h => by subst h; rw [← hb]; exact pre_one x)
      have HB := Lib.hid hbyt
      have HE1 : Hid (dl (strOfNums [48 + (X : Int) / 16777216 % 256 % 10]) = [dgB (b % 10)]) := Lib.hid (str_digit (by omega) (by omega))
      have HE2 : Hid (dl (strOfNums [48 + (X : Int) / 16777216 % 256 / 10 % 10]) = [dgB (b / 10 % 10)]) := Lib.hid (str_digit (by omega) (by omega))
      have HE3 : Hid (dl (strOfNums [48 + (X : Int) / 16777216 % 256 / 100]) = [dgB (b / 100)]) := Lib.hid (str_digit (by omega) (by omega))
      have HT0 : Hid (k = 0 → dl t = []) := Lib.hid (fun h => by rw [HT.out, h]; rfl)
      clear hb hbyt
      have hcb := fun c => HCB.out c wr
      have hcb2 := fun c o => HCB.out c (wr.alloc o)
      have hcb3 := fun c o o' => HCB.out c ((wr.alloc o).alloc o')
      simp only [World.size_alloc] at hcb2 hcb3
      have hs1 := HS1.out
      have hhk : 0 < k ∨ k = 0 := by omega
      rcases hhk with hk0 | hk0
      · have hkz : (0 : Int) < (k : Int) := by omega
        have HQ := Lib.hid (HPS.out hk0)
        go_wp2_with fail
        all_goals
          go_roundg (4 - (k + 1))
          case measure => omega
          case rel =>
            have hbX := HB.out
            refine ⟨k + 1, X * 256 % 4294967296, _, by go_num, rfl, congrArg (Value.int .u32) (by omega), rfl, by omega, HX2, Lib.hid ?_, ?_⟩
            · rw [HQ.out]
              first
              | (rw [digs_one (by omega)]; simp only [app_dl, HE1.out, HT.out]; rfl)
              | (rw [digs_two (by omega) (by omega)]; simp only [app_dl, HE1.out, HE2.out, HT.out]; rfl)
              | (rw [digs_three (by omega) (by omega)]; simp only [app_dl, HE1.out, HE2.out, HE3.out, HT.out]; rfl)
            · first
              | exact hB.alloc hB.size _
              | exact (hB.alloc hB.size _).alloc (hB.alloc hB.size _).size _
              | exact ((hB.alloc hB.size _).alloc (hB.alloc hB.size _).size _).alloc ((hB.alloc hB.size _).alloc (hB.alloc hB.size _).size _).size _
      · have hkz : ¬ (0 : Int) < (k : Int) := by omega
        have HQ := Lib.hid (HP0.out hk0)
        have HTe := Lib.hid (HT0.out hk0)
        have HK0 := Lib.hid hk0
        clear hk0
        go_wp2_with fail
        all_goals
          go_roundg (4 - (k + 1))
          case measure => omega
          case rel =>
            have hbX := HB.out
            refine ⟨k + 1, X * 256 % 4294967296, _, by go_num, rfl, congrArg (Value.int .u32) (by omega), rfl, by omega, HX2, Lib.hid ?_, ?_⟩
            · rw [HQ.out]
              first
              | (rw [digs_one (by omega)]; simp only [app_dl, HE1.out, HTe.out]; rfl)
              | (rw [digs_two (by omega) (by omega)]; simp only [app_dl, HE1.out, HE2.out, HTe.out]; rfl)
              | (rw [digs_three (by omega) (by omega)]; simp only [app_dl, HE1.out, HE2.out, HE3.out, HTe.out]; rfl)
            · first
              | exact hB.alloc hB.size _
              | exact (hB.alloc hB.size _).alloc (hB.alloc hB.size _).size _
              | exact ((hB.alloc hB.size _).alloc (hB.alloc hB.size _).size _).alloc ((hB.alloc hB.size _).alloc (hB.alloc hB.size _).size _).size _
    · obtain rfl : k = 4 := by omega
      have HT4 : Hid (t = bs (shw x)) := Lib.hid (bs_eq HT.out)
      go_wp2_with fail
      go_ret
      exact ⟨by rw [← HT4.out]; rfl, hB⟩
end Go.Proofs.YtpmdecdjlegcnaaDoor.Fou
