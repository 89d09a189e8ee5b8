/-
  strconv.FormatUint to the base ten.
-/
import Derived.Test.YtpmdecdjlegcnaaDoorFourH
namespace Go.Proofs.YtpmdecdjlegcnaaDoor.Fou
open Go.RowKit Go.Shelf Go.Sort

abbrev enc8 : UInt8 → Value := fun b => Value.int .u8 (b.toNat : Int)
theorem arr24 : Tryd.prog.arrayLen 87 = 24 := by kernel_rfl
set_option maxRecDepth 100000 in
set_option maxHeartbeats 4000000 in
theorem formatUint10_any (u : Nat) (hu : u < 18446744073709551616) (w : World) (hp : PowIs w) : Calls Tryd.prog 42 #[.int .u64 (u : Int), .int .i64 10] w (Texts (digs 10 u) w) := by
  rw [← dec_digs]
  by_cases hs : u < 100
  · have hsm : Calls Tryd.prog 68 #[.int .i64 (u : Int)] w fun e w' => e = .returned (.string ⟨(Lib.decDigits u).toArray⟩) ∧ w' = w := Any.internal_strconv_small (ρ := itoaLaid_ren) { itoaLaid with } u hs w
    have H := Lib.hid hsm
    have hsi : (u : Int) < 100 := by omega
    clear hsm hp hs hu
    go_enter Tryd.func42, Tryd.ntmps42
    go_wp2_with fail
    refine H.out.mono ?_
    rintro e w1 ⟨rfl, hw⟩
    go_wp2_with fail
    go_ret
    exact ⟨rfl, Below.refl _ _⟩
  have h1 : 1 ≤ u := by omega
  have hn20 : Lib.nDigits u ≤ 20 := by have := Lib.numDigits_eq u h1 hu; split at this <;> omega
  obtain ⟨n, hn⟩ : ∃ n, Lib.nDigits u = n := ⟨_, rfl⟩
  have hH0 := Lib.holds_zero0 w 87 (Lib.nDigits u) (by omega)
  have hfmt : Calls Tryd.prog 70 _ _ _ := Any.internal_strconv_formatBase10 (ρ := itoaLaid_ren) { itoaLaid with } w.heap.size 0 24 u (Array.replicate (Lib.nDigits u) 0) (w.alloc (.cells Lib.zeros24 87)) hH0 (by rw [Array.size_replicate]; exact Lib.lt_pow_nDigits u) hu (by rw [Array.size_replicate]; omega)
  rw [Array.size_replicate, hn] at hfmt
  have hdig : Calls Tryd.prog 69 _ _ _ := Any.internal_strconv_numDigits (ρ := itoaLaid_ren) { itoaLaid with } u h1 hu (w.alloc (.cells Lib.zeros24 87)) (Lib.tabIs_alloc hp _)
  rw [hn] at hdig
  have hsl : ∀ W, (Instr.sliceAt 87 (.pointer (some ⟨w.heap.size, 0, none⟩)) none (some (.int .i64 (n : Int))) none).run Tryd.prog W = .ok (.slice (some ⟨w.heap.size, 0, none⟩) n 24) W := fun W => by
    rw [run_sliceAt_array_h W 87 ⟨w.heap.size, 0, none⟩ (by simp [Program.arrayLen, Program.elem, Tryd.underlying87]) .i64 (n : Int) (by omega) (by rw [arr24]; omega), arr24]
    go_simp
  have HF := Lib.hid hfmt
  have HD := Lib.hid hdig
  have HH := Lib.hid hH0
  have HN := Lib.hid hn
  have hui : ¬ (u : Int) < 100 := by omega
  clear hfmt hdig hH0 hn hp hu hs
  go_enter Tryd.func42, Tryd.ntmps42
  go_wp2_with fail
  refine HD.out.mono ?_
  rintro e w1 ⟨rfl, rfl⟩
  go_wp2_with fail
  refine HF.out.mono ?_
  rintro e w2 ⟨rfl, k, v', dk, rfl, hF⟩
  have hcv : (convert 44 9 (.slice (some ⟨w.heap.size, 0, none⟩) n 24)).run Tryd.prog ((putRow (fun (b : UInt8) => Value.int .u8 (b.toNat : Int)) (w.alloc (.cells Lib.zeros24 87)) w.heap.size 0 dk).drewN k) = .ok (.string (bs (Lib.decDigits u))) ((putRow (fun (b : UInt8) => Value.int .u8 (b.toNat : Int)) (w.alloc (.cells Lib.zeros24 87)) w.heap.size 0 dk).drewN k) := by
    have hF2 := hF
    rw [← HN.out] at hF2
    have h := run_convert_bytes_back (P := Tryd.prog) ((putRow (fun (b : UInt8) => Value.int .u8 (b.toNat : Int)) (w.alloc (.cells Lib.zeros24 87)) w.heap.size 0 dk).drewN k) 44 9 5 ⟨w.heap.size, 0, none⟩ 24 (Lib.decDigits u) Tryd.underlying44 Tryd.underlying5 Tryd.underlying9 (fun j hj => by
      rw [Lib.row_is_numeral hF2 j hj, Lib.add_plain, World.cell?_drewN]
      exact cell?_putRow (fun (b : UInt8) => Value.int .u8 (b.toNat : Int)) _ w.heap.size 0 _ dk HH.out (by rw [hF2.size, Array.size_replicate]) j (by rw [hF2.size]; rw [Lib.decDigits_length] at hj; exact hj))
    rw [Lib.decDigits_length, HN.out] at h
    exact h
  obtain ⟨os, eo⟩ := Lib.fin_at w (.cells Lib.zeros24 87) dk k 0
  have HB : Hid (Below w.heap.size w ((putRow (fun (b : UInt8) => Value.int .u8 (b.toNat : Int)) (w.alloc (.cells Lib.zeros24 87)) w.heap.size 0 dk).drewN k)) := Lib.hid (by rw [eo]; exact Lib.below_grow _ _ (Nat.le_refl _) k os)
  clear eo hF
  generalize (putRow (fun (b : UInt8) => Value.int .u8 (b.toNat : Int)) (w.alloc (.cells Lib.zeros24 87)) w.heap.size 0 dk).drewN k = w2 at hcv HB ⊢
  go_wp2_with fail
  go_ret
  exact ⟨rfl, HB.out⟩
theorem FormatUint10_any (u : Nat) (hu : u < 18446744073709551616) (w : World) (hp : PowIs w) : Calls Tryd.prog 24 #[.int .u64 (u : Int), .int .i64 10] w (Texts (digs 10 u) w) := by
  have H := Lib.hid (formatUint10_any u hu w hp)
  clear hp hu
  go_enter Tryd.func24, Tryd.ntmps24
  go_wp2_with fail
  refine H.out.mono ?_
  rintro e w1 ⟨rfl, hB⟩
  go_wp2_with fail
  go_ret
  exact ⟨rfl, hB⟩
end Go.Proofs.YtpmdecdjlegcnaaDoor.Fou
