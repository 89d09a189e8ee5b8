/-
  fasciaref13: hex.
-/
import Derived.Test.YtcoppicieicikaaDoorSixRB
import Derived.Test.YtcoppicieicikaaDoorSixU
namespace Go.Proofs.YtcoppicieicikaaDoor.Sx
open Go.RowKit Go.Shelf

theorem lit16 : ∀ d : Fin 16, (⟨#[48, 49, 50, 51, 52, 53, 54, 55, 56, 57, 97, 98, 99, 100, 101, 102]⟩ : ByteArray)[d.1]'(Nat.lt_of_lt_of_le d.2 (by decide)) = dgB d.1 := by decide
set_option maxRecDepth 100000 in
set_option maxHeartbeats 2000000 in
theorem hex_ref : ∀ (m n : Nat) (w : World), n < 16 ^ (m + 1) → n < 65536 → Calls Tryd.prog 33 #[.int .i64 (n : Int)] w (Texts (digs 16 n) w)
  | m, n, w, hn, h16 => by
    obtain ⟨d, hd⟩ : ∃ d, n % 16 = d := ⟨_, rfl⟩
    have hd16 : d < 16 := by omega
    have hdi : (n : Int) % 16 = (d : Int) := by omega
    have hdt : (n : Int).tmod 16 = (d : Int) := by rw [Int.tmod_eq_emod_of_nonneg (by omega)]; exact hdi
    have hdz : (0 : Int) ≤ (d : Int) ∧ (d : Int) < 16 := by omega
    have hlit : (⟨#[48, 49, 50, 51, 52, 53, 54, 55, 56, 57, 97, 98, 99, 100, 101, 102]⟩ : ByteArray)[d]'(Nat.lt_of_lt_of_le hd16 (by decide)) = dgB d := lit16 ⟨d, hd16⟩
    have hcv : (convert 34 9 (.slice (some ⟨w.heap.size, 0, none⟩) 1 1)).run Tryd.prog (w.alloc (.cells #[.int .u8 ((dgB d).toNat : Int)] 5)) = .ok (.string (bs [dgB d])) (w.alloc (.cells #[.int .u8 ((dgB d).toNat : Int)] 5)) := by
      rw [conv_byte, str_bs]
      simp
    have HB := Lib.hid (upA w (.cells #[.int .u8 ((dgB d).toNat : Int)] 5))
    by_cases hs : n < 16
    · have hz : (n : Int) < 16 := by omega
      have HD : Hid (digs 16 n = [dgB d]) := Lib.hid (by rw [digs_lt hs, ← hd, Nat.mod_eq_of_lt hs])
      rw [HD.out]
      clear hd
      go_enter Tryd.func33, Tryd.ntmps33
      go_wp2_with fail
      go_ret
      exact ⟨rfl, HB.out⟩
    · have hz : ¬ (n : Int) < 16 := by omega
      obtain ⟨m', rfl⟩ : ∃ m', m = m' + 1 := ⟨m - 1, by
        cases m with
        | zero => exact absurd (by simpa using hn) hs
        | succ k => rfl⟩
      obtain ⟨q, hq⟩ : ∃ q, n / 16 = q := ⟨_, rfl⟩
      have hqi : (n : Int) / 16 = (q : Int) := by omega
      have hqt : (n : Int).tdiv 16 = (q : Int) := by rw [Int.tdiv_eq_ediv_of_nonneg (by omega)]; exact hqi
      have hqm : q < 16 ^ (m' + 1) := by rw [← hq, Nat.div_lt_iff_lt_mul (by decide)]; rw [Nat.pow_succ] at hn; omega
      have HR := Lib.hid (fun W => hex_ref m' q W hqm (by omega))
      have HD : Hid (digs 16 n = digs 16 q ++ [dgB d]) := Lib.hid (by rw [digs_ge (by decide) hs, hd, hq])
      have hl : (bs (digs 16 q)).size ≤ 4 := by rw [bs_size]; exact hex_len (by omega)
      have hl2 : (bs [dgB d]).size = 1 := bs_size _
      have HS : Hid (bs (digs 16 q) ++ bs [dgB d] = bs (digs 16 n)) := Lib.hid (bytes_ext.2 (by
        rw [bs_data, HD.out]
        show dl _ = _
        rw [app_dl]
        simp [dl, bs]))
      unfold Texts at HR ⊢
      generalize bs (digs 16 n) = sN at HS ⊢
      generalize bs (digs 16 q) = sQ at HR HS hl
      generalize bs [dgB d] = sD at hcv HS hl2
      have hk : ¬ (9223372036854775807 < sQ.size + 1) := by omega
      clear hd hq hqm hn HD
      go_enter Tryd.func33, Tryd.ntmps33
      go_upto_region 4 with fail
      go_wp2_with (first | (go_at_call 33; refine (HR.out _).mono ?_; rintro e w2 ⟨rfl, hB2⟩) | fail)
      go_ret
      exact ⟨by rw [← HS.out] <;> rfl, upB HB.out hB2⟩
end Go.Proofs.YtcoppicieicikaaDoor.Sx
