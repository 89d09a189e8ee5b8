/-
  strconv.FormatUint to the base 16.
-/
import Derived.Test.YtcoppicieicikaaDoorSixL
import Derived.Shelf.Spec.TrailingZeros
namespace Go.Proofs.YtcoppicieicikaaDoor.Sx
open Go.RowKit Go.Shelf

/-- a cell of the table of the sixty-four -/
def BruIs (w : World) : Prop := w.cell? ⟨8, 15, none⟩ = some (.int .u8 4)
theorem BruIs.go {w w' : World} {m : Nat} (h : BruIs w) (hm : w.heap.size ≤ m) (hB : Below m w w') : BruIs w' := cell_go h hm hB
theorem tz64_at (x k idx : Nat) (w : World) (hx0 : ((x : Int) == 0) = false)
    (key : IntKind.u64.wrap (bits BinOp.and IntKind.u64 (x : Int) (IntKind.u64.wrap (-(x : Int))) * 285870213051353865) / 288230376151711744 = (idx : Int))
    (hi : idx < 64) (hk : k < 64) (hcell : w.cell? ⟨8, idx, none⟩ = some (.int .u8 k)) :
    Calls Tryd.prog 112 #[.int .u64 x] w fun e w' => e = .returned (.int .i64 k) ∧ w' = w := by
  go_enter Tryd.func112, Tryd.ntmps112
  go_wp2_with (simp only [key])
  go_ret
  exact ⟨rfl, rfl⟩
theorem tz_at (b s : Nat) (hb : b = 16 ∧ s = 4) (w : World) (hB : BruIs w) : Calls Tryd.prog 101 #[.int .u64 (b : Int)] w fun e w' => e = .returned (.int .i64 (s : Int)) ∧ w' = w := by
  have h64 : Calls Tryd.prog 112 #[.int .u64 (b : Int)] w fun e w' => e = .returned (.int .i64 (s : Int)) ∧ w' = w := by
    obtain ⟨rfl, rfl⟩ := hb
    exact tz64_at 16 4 15 w (by decide) (tz64_key 16 16 (by decide) (by decide) (by decide)) (by decide) (by decide) hB
  have H := Lib.hid h64
  clear h64 hB hb
  go_enter Tryd.func101, Tryd.ntmps101
  go_wp2_with fail
  refine H.out.mono ?_
  rintro e w1 ⟨rfl, rfl⟩
  go_wp2_with fail
  go_ret
  exact ⟨rfl, rfl⟩
theorem pow_at (b s : Nat) (hb : b = 16 ∧ s = 4) (w : World) : Calls Tryd.prog 100 #[.int .i64 (b : Int)] w fun e w' => e = .returned (.bool true) ∧ w' = w := by
  obtain ⟨rfl, rfl⟩ := hb
  go_enter Tryd.func100, Tryd.ntmps100
  go_wp2_with fail
  go_ret
  exact ⟨rfl, rfl⟩
def lit36 : ByteArray := ⟨#[48, 49, 50, 51, 52, 53, 54, 55, 56, 57, 97, 98, 99, 100, 101, 102, 103, 104, 105, 106, 107, 108, 109, 110, 111, 112, 113, 114, 115, 116, 117, 118, 119, 120, 121, 122]⟩
theorem lit_get : ∀ d : Fin 16, lit36[d.1]'(Nat.lt_trans d.2 (by decide)) = dgB d.1 := by decide +kernel
theorem idx_lit (d : Nat) (hd : d < 16) (W : World) : (Instr.index 9 (.string lit36) (.int .u64 (d : Int))).run Tryd.prog W = .ok (.int .u8 ((dgB d).toNat : Int)) W := by
  have hs : lit36.size = 36 := by decide
  rw [run_index_string W 9 lit36 .u64 (d : Int) Tryd.underlying9, dif_pos ⟨by omega, by rw [hs]; omega⟩]
  simp only [Int.toNat_natCast]
  rw [lit_get ⟨d, hd⟩]
def FB (b u h v i : Nat) (W : World) : Prop := ∃ suf : List UInt8, i + suf.length = 65 ∧ digs b u = digs b v ++ suf ∧ v * b ^ suf.length < 18446744073709551616 ∧ (∀ j (hj : j < suf.length), W.cell? ⟨h, i + j, none⟩ = some (.int .u8 (suf[j].toNat : Int))) ∧ (∀ j, j < 65 → ∃ c, W.cell? ⟨h, j, none⟩ = some c) ∧ (∀ j, W.frozen? ⟨h, j, none⟩ = false) ∧ h < W.heap.size
theorem FB_put {b u h v i : Nat} {W : World} (hb2 : 2 ≤ b) (hF : FB b u h v (i + 1) W) (hv : b ≤ v) : FB b u h (v / b) i (W.setCell ⟨h, i, none⟩ (.int .u8 ((dgB (v % b)).toNat : Int))) := by
  obtain ⟨suf, h1, h2, h3, h4, h5, h6, h7⟩ := hF
  obtain ⟨c, hc⟩ := h5 i (by omega)
  refine ⟨dgB (v % b) :: suf, by simp; omega, ?_, ?_, ?_, ?_, ?_, ?_⟩
  · rw [h2, digs_ge hb2 (by omega)]
    simp
  · rw [List.length_cons, Nat.pow_succ, Nat.mul_comm (b ^ suf.length) b, ← Nat.mul_assoc]
    exact Nat.lt_of_le_of_lt (Nat.mul_le_mul_right _ (Nat.div_mul_le_self v b)) h3
  · intro j hj
    cases j with
    | zero => exact World.cell?_setCell_same _ _ _ hc
    | succ j =>
      rw [World.cell?_setCell_other _ _ _ _ (by intro e; injection e; omega)]
      have := h4 j (by simpa using hj)
      rw [show i + (j + 1) = i + 1 + j by omega]
      exact this
  · intro j hj
    by_cases e : j = i
    · subst e
      exact ⟨_, World.cell?_setCell_same _ _ _ hc⟩
    · obtain ⟨c', hc'⟩ := h5 j hj
      exact ⟨c', (World.cell?_setCell_other _ _ _ _ (by intro e'; injection e'; omega)).trans hc'⟩
  · intro j
    rw [World.frozen?_setCell]
    exact h6 j
  · simpa [World.setCell] using h7
theorem FB_room {b u h v i : Nat} {W : World} (hb : 8 ≤ b) (hv : 1 ≤ v) (hF : FB b u h v i W) : 1 ≤ i := by
  obtain ⟨suf, h1, h2, h3, _⟩ := hF
  have hp : 8 ^ suf.length ≤ b ^ suf.length := Nat.pow_le_pow_left hb _
  have h4 : 8 ^ suf.length < 18446744073709551616 := Nat.lt_of_le_of_lt (Nat.le_trans hp (Nat.le_mul_of_pos_left _ hv)) h3
  have : suf.length < 22 := by
    rcases Nat.lt_or_ge suf.length 22 with h | h
    · exact h
    · have := Nat.pow_le_pow_right (n := 8) (by decide) h
      omega
  omega
theorem FB_end {b u h v i q : Nat} {W : World} (hF : FB b u h v (i + 1) W) (hv : v < b) (hq : i + q = 65) :
    (digs b u).length = q ∧ ∀ j (hj : j < (digs b u).length), (W.setCell ⟨h, i, none⟩ (.int .u8 ((dgB v).toNat : Int))).cell? ⟨h, i + j, none⟩ = some (.int .u8 ((digs b u)[j].toNat : Int)) := by
  obtain ⟨suf, h1, h2, h3, h4, h5, h6, h7⟩ := hF
  obtain ⟨c, hc⟩ := h5 i (by omega)
  rw [digs_lt hv] at h2
  refine ⟨by rw [h2]; simp; omega, ?_⟩
  rw [h2]
  intro j hj
  cases j with
  | zero => exact World.cell?_setCell_same _ _ _ hc
  | succ j =>
    rw [World.cell?_setCell_other _ _ _ _ (by intro e; injection e; omega)]
    have := h4 j (by simpa using hj)
    rw [show i + (j + 1) = i + 1 + j by omega]
    exact this
theorem arr65 : Tryd.prog.arrayLen 129 = 65 := by kernel_rfl
theorem slice_at (h i q : Nat) (hq : i + q = 65) (hi : i < 65) (W : World) : (Instr.sliceAt 129 (.pointer (some ⟨h, 0, none⟩)) (some (.int .i64 (i : Int))) none none).run Tryd.prog W = .ok (.slice (some ⟨h, i, none⟩) q q) W := by
  rw [run_sliceAt_array_l W 129 ⟨h, 0, none⟩ (by simp [Program.arrayLen, Program.elem, Tryd.underlying129]) .i64 (i : Int) (by omega) (by rw [arr65]; omega), arr65]
  have e1 : 65 - i = q := by omega
  have e2 : ¬ 65 = i := by omega
  have hs : (sizeOf 5).run Tryd.prog W = .ok 1 W := by kernel_rfl
  go_simp
theorem conv_at (h i q : Nat) (l : List UInt8) (hl : l.length = q) (W : World) (hc : ∀ j (hj : j < l.length), W.cell? ⟨h, i + j, none⟩ = some (.int .u8 (l[j].toNat : Int))) : (convert 34 9 (.slice (some ⟨h, i, none⟩) q q)).run Tryd.prog W = .ok (.string (bs l)) W := by
  subst hl
  exact run_convert_bytes_back (P := Tryd.prog) W 34 9 5 ⟨h, i, none⟩ l.length l Tryd.underlying34 Tryd.underlying5 Tryd.underlying9 (fun j hj => by rw [Lib.add_plain]; exact hc j hj)
theorem FB_start (b u : Nat) (w : World) (hu : u < 18446744073709551616) (arr : Array Value) (T : TypeId) (ha : arr.size = 65) : FB b u w.heap.size u 65 (w.alloc (.cells arr T)) := by
  refine ⟨[], rfl, by simp, by simpa using hu, fun j hj => by simp at hj, fun j hj => ⟨arr[j]'(by omega), ?_⟩, fun j => ?_, by simp⟩
  · rw [World.cell?_alloc_new, Array.getElem?_eq_getElem (by omega)]
  · unfold World.frozen?
    rw [show (w.alloc (.cells arr T)).heap[w.heap.size]? = _ from World.alloc_heap_new w _]
    simp
theorem and_mask {b s m v : Nat} (hb : b = 16 ∧ s = 4) (hm : b = m + 1) (hv : v < 18446744073709551616) : bits .and .u64 (v : Int) (m : Int) = ((v % b : Nat) : Int) := by
  rw [bits_and_u64_nat v m hv (by omega)]
  obtain ⟨rfl, rfl⟩ := hb
  obtain rfl : m = 2 ^ 4 - 1 := by omega
  rw [Nat.and_two_pow_sub_one_eq_mod]
theorem shr_base {b s v : Nat} (hb : b = 16 ∧ s = 4) : (v : Int) / 2 ^ s = ((v / b : Nat) : Int) := by
  obtain ⟨rfl, rfl⟩ := hb
  omega
set_option maxRecDepth 100000 in
set_option maxHeartbeats 4000000 in
theorem formatBits_any (b s u : Nat) (hb : b = 16 ∧ s = 4) (hu : u < 18446744073709551616) (w : World) (hBr : BruIs w) :
    Calls Tryd.prog 85 #[.slice none 0 0, .int .u64 (u : Int), .int .i64 (b : Int), .bool false, .bool false] w (fun e w' => e = .returned (.tuple #[.slice none 0 0, .string (bs (digs b u))]) ∧ Below w.heap.size w w') := by
  have HP := Lib.hid (fun W => pow_at b s hb W)
  have HT := Lib.hid (fun W h => tz_at b s hb W h)
  have HBr := Lib.hid hBr
  have HU := Lib.hid hu
  have HS := Lib.hid (fun arr T ha => FB_start b u w hu arr T ha)
  obtain ⟨m, hm⟩ : ∃ m : Nat, b = m + 1 := ⟨b - 1, by omega⟩
  have hbm : (b : Int) - 1 = (m : Int) := by omega
  have hb8 : (8 : Int) ≤ (b : Int) := by omega
  have hb16 : (b : Int) ≤ 16 := by omega
  have hb10 : ((b : Int) == 10) = false := by
    rw [beq_eq_false_iff_ne]
    omega
  have hs4 : (s : Int) ≤ 4 := by omega
  have hs0 : (0 : Int) ≤ (s : Int) := by omega
  have hst : (s : Int).toNat = s := by omega
  have HBS := Lib.hid hb
  have HM := Lib.hid hm
  clear hBr hu hb hm
  go_enter Tryd.func85, Tryd.ntmps85
  go_wp2_with fail
  refine (HP.out _).mono ?_
  rintro e w1 ⟨rfl, rfl⟩
  go_wp2_with fail
  refine (HT.out _ (HBr.out.go (Nat.le_refl _) ((Below.refl _ w).alloc (Nat.le_refl _) _))).mono ?_
  rintro e w2 ⟨rfl, rfl⟩
  go_wp2_with fail
  go_loopg [1, 13] u (fun k s1 s13 wr => ∃ v i : Nat, s1 = .int .u64 (v : Int) ∧ v = k ∧ s13 = .int .i64 (i : Int) ∧ (1 ≤ v ∨ i = 65) ∧ i ≤ 65 ∧ Hid (v < 18446744073709551616) ∧ Hid (FB b u w.heap.size v i wr) ∧ Below w.heap.size w wr)
  case atStart => exact ⟨u, 65, rfl, rfl, rfl, .inr rfl, Nat.le_refl _, HU, Lib.hid (HS.out _ _ (by kernel_rfl)), (Below.refl _ w).alloc (Nat.le_refl _) _⟩
  case round =>
    obtain ⟨v, i, rfl, rfl, rfl, hvi, hi65, HV, HF, hB⟩ := hrel
    have hb8' : 8 ≤ b := by omega
    have hi1 : 1 ≤ i := by
      rcases hvi with h | h
      · exact FB_room hb8' h HF.out
      · omega
    obtain ⟨i', rfl⟩ : ∃ i', i = i' + 1 := ⟨i - 1, by omega⟩
    have hii : ((i' + 1 : Nat) : Int) - 1 = (i' : Int) := by omega
    have hi0 : (0 : Int) ≤ (i' : Int) ∧ (i' : Int) < 65 := by omega
    have hil : i' < 65 := by omega
    have hit : (i' : Int).toNat = i' := by omega
    have hcf : (∃ c, wr.cell? ⟨w.heap.size, i', none⟩ = some c) ∧ wr.frozen? ⟨w.heap.size, i', none⟩ = false := by
      obtain ⟨suf, h1, h2, h3, h4, h5, h6, h7⟩ := HF.out
      exact ⟨h5 i' hil, h6 i'⟩
    obtain ⟨⟨c, hc⟩, hf⟩ := hcf
    by_cases hlt : b ≤ v
    · have hge : (b : Int) ≤ (v : Int) := by omega
      obtain ⟨d, hd⟩ : ∃ d, v % b = d := ⟨_, rfl⟩
      have hd16 : d < 16 := by
        have := Nat.mod_lt v (show b > 0 by omega)
        omega
      have hand : bits .and .u64 (v : Int) (m : Int) = (d : Int) := by rw [and_mask HBS.out HM.out HV.out, hd]
      have hlit : (⟨#[48, 49, 50, 51, 52, 53, 54, 55, 56, 57, 97, 98, 99, 100, 101, 102, 103, 104, 105, 106, 107, 108, 109, 110, 111, 112, 113, 114, 115, 116, 117, 118, 119, 120, 121, 122]⟩ : ByteArray)[d]'(Nat.lt_trans hd16 (by decide)) = dgB d := lit_get ⟨d, hd16⟩
      have HDD := Lib.hid hd
      have hF2 := Lib.hid (FB_put (by omega) HF.out hlt)
      rw [hd] at hF2
      have hv1 : 1 ≤ v / b := (Nat.one_le_div_iff (by omega)).2 hlt
      have hvd : v / b < v := Nat.div_lt_self (by omega) (by omega)
      have HV2 := Lib.hid (Nat.lt_trans hvd HV.out)
      have HV1 := Lib.hid hv1
      have HVD := Lib.hid hvd
      clear hd hvi hv1 hvd
      go_wp2_with fail
      go_roundg (v / b)
      case measure => exact HVD.out
      case rel =>
        refine ⟨v / b, i', ?_, rfl, by go_num, .inl HV1.out, by omega, HV2, hF2, hB.setCell (p := ⟨w.heap.size, i', none⟩) (Nat.le_refl _) _⟩
        rw [shr_base HBS.out]
    · have hge : ¬ (b : Int) ≤ (v : Int) := by omega
      have hd16 : v < 16 := by omega
      have hlit : (⟨#[48, 49, 50, 51, 52, 53, 54, 55, 56, 57, 97, 98, 99, 100, 101, 102, 103, 104, 105, 106, 107, 108, 109, 110, 111, 112, 113, 114, 115, 116, 117, 118, 119, 120, 121, 122]⟩ : ByteArray)[v]'(Nat.lt_trans hd16 (by decide)) = dgB v := lit_get ⟨v, hd16⟩
      obtain ⟨q, hq⟩ : ∃ q, i' + q = 65 := ⟨65 - i', by omega⟩
      obtain ⟨hq1, hq2⟩ := FB_end HF.out (by omega) hq
      have hsl := fun W => slice_at w.heap.size i' q hq hil W
      have hcv := conv_at w.heap.size i' q (digs b u) hq1 _ hq2
      clear hq1 hq2 hvi hq
      go_wp2_with fail
      go_ret2
      exact ⟨rfl, hB.setCell (p := ⟨w.heap.size, i', none⟩) (Nat.le_refl _) _⟩
theorem formatUint_any (b s u : Nat) (hb : b = 16 ∧ s = 4) (hu : u < 18446744073709551616) (w : World) (hBr : BruIs w) : Calls Tryd.prog 65 #[.int .u64 (u : Int), .int .i64 (b : Int)] w (Texts (digs b u) w) := by
  have H := Lib.hid (formatBits_any b s u hb hu w hBr)
  have hb10 : ((b : Int) == 10) = false := by
    rw [beq_eq_false_iff_ne]
    omega
  clear hb hu hBr
  go_enter Tryd.func65, Tryd.ntmps65
  go_wp2_with fail
  refine H.out.mono ?_
  rintro e w1 ⟨rfl, hB⟩
  go_wp2_with fail
  go_ret
  exact ⟨rfl, hB⟩
theorem FormatUint_any (b s u : Nat) (hb : b = 16 ∧ s = 4) (hu : u < 18446744073709551616) (w : World) (hBr : BruIs w) : Calls Tryd.prog 40 #[.int .u64 (u : Int), .int .i64 (b : Int)] w (Texts (digs b u) w) := by
  have H := Lib.hid (formatUint_any b s u hb hu w hBr)
  clear hb hu hBr
  go_enter Tryd.func40, Tryd.ntmps40
  go_wp2_with fail
  refine H.out.mono ?_
  rintro e w1 ⟨rfl, hB⟩
  go_wp2_with fail
  go_ret
  exact ⟨rfl, hB⟩
theorem FormatHex_any (u : Nat) (hu : u < 65536) (w : World) (hE : Env w) : Calls Tryd.prog 40 #[.int .u64 (u : Int), .int .i64 16] w (Texts (digs 16 u) w) := FormatUint_any 16 4 u ⟨rfl, rfl⟩ (by omega) w hE.bru
end Go.Proofs.YtcoppicieicikaaDoor.Sx
