/-
  The contracts of the document's own answer for layer 1: Scalar, long, tails, number, goes.
-/
import Derived.Test.YtignohjphblpdaaUtfRefMath
import Derived.Test.YtignohjphblpdaaAwake1
namespace Go.Proofs.Ytignohjphblpdaa
open Go.RowKit Utf

set_option maxHeartbeats 400000 in
theorem RScalar_any (r : Int) (w : World) : Calls Try.prog 11 #[.int .i32 r] w fun e w' => e = .returned (.bool (sca r)) ∧ w = w' := by
  by_cases h1 : 0 ≤ r
  · by_cases h3 : r < 55296
    · go_enter Try.func11, Try.ntmps11
      go_wp2
      go_ret
      exact ⟨ret_bool (by simp [sca]; omega), rfl⟩
    · by_cases h4 : 57343 < r
      · by_cases h2 : r ≤ 1114111
        · go_enter Try.func11, Try.ntmps11
          go_wp2
          go_ret
          exact ⟨ret_bool (by simp [sca]; omega), rfl⟩
        · go_enter Try.func11, Try.ntmps11
          go_wp2
          go_ret
          exact ⟨ret_bool (by simp [sca]; omega), rfl⟩
      · go_enter Try.func11, Try.ntmps11
        go_wp2
        go_ret
        exact ⟨ret_bool (by simp [sca]; omega), rfl⟩
  · have h4 : ¬ 57343 < r := by omega
    go_enter Try.func11, Try.ntmps11
    go_wp2
    go_ret
    exact ⟨ret_bool (by simp [sca]; omega), rfl⟩
theorem RScalar_is {r : Int} {b : Bool} (w : World) (h : sca r = b) : Calls Try.prog 11 #[.int .i32 r] w fun e w' => e = .returned (.bool b) ∧ w = w' := by
  subst h
  exact RScalar_any r w

set_option maxHeartbeats 400000 in
theorem long_any (c : Int) (w : World) (h0 : 0 ≤ c) (h5 : c ≤ 255) : Calls Try.prog 25 #[.int .u8 c] w fun e w' => e = .returned (.int .i64 (lng c)) ∧ w = w' := by
  by_cases a1 : c < 128
  · have HL := Lib.hid (lng1 a1)
    go_enter Try.func25, Try.ntmps25
    go_wp2
    go_ret
    exact ⟨ret_int (by rw [HL.out]; rfl), rfl⟩
  by_cases a0 : c < 192
  · have HL := Lib.hid (lng0 (c := c) (by omega) (by omega))
    go_enter Try.func25, Try.ntmps25
    go_wp2
    go_ret
    exact ⟨ret_int (by rw [HL.out]; rfl), rfl⟩
  by_cases a2 : c < 224
  · have HL := Lib.hid (lng2 (c := c) (by omega) (by omega))
    go_enter Try.func25, Try.ntmps25
    go_wp2
    go_ret
    exact ⟨ret_int (by rw [HL.out]; rfl), rfl⟩
  by_cases a3 : c < 240
  · have HL := Lib.hid (lng3 (c := c) (by omega) (by omega))
    go_enter Try.func25, Try.ntmps25
    go_wp2
    go_ret
    exact ⟨ret_int (by rw [HL.out]; rfl), rfl⟩
  by_cases a4 : c < 248
  · have HL := Lib.hid (lng4 (c := c) (by omega) (by omega))
    go_enter Try.func25, Try.ntmps25
    go_wp2
    go_ret
    exact ⟨ret_int (by rw [HL.out]; rfl), rfl⟩
  · have HL := Lib.hid (lng0 (c := c) (by omega) (by omega))
    go_enter Try.func25, Try.ntmps25
    go_wp2
    go_ret
    exact ⟨ret_int (by rw [HL.out]; rfl), rfl⟩

theorem tails_false {b : List Int} {k : Nat} {y : Int} (h : b[k]? = some y) (hk : 1 ≤ k) (hy : ¬ (128 ≤ y ∧ y ≤ 191)) : tailsM b = false := by
  unfold tailsM
  rw [List.all_eq_false]
  refine ⟨y, ?_, by simp; omega⟩
  have : (b.drop 1)[k - 1]? = some y := by rw [List.getElem?_drop, show 1 + (k - 1) = k from by omega]; exact h
  exact List.mem_of_getElem? this
theorem tails_true {b : List Int} (h : ∀ j y, 1 ≤ j → b[j]? = some y → 128 ≤ y ∧ y ≤ 191) : tailsM b = true := by
  unfold tailsM
  rw [List.all_eq_true]
  intro y hy
  obtain ⟨j, hj⟩ := List.getElem?_of_mem hy
  rw [List.getElem?_drop] at hj
  have := h (1 + j) y (by omega) hj
  simpa using this

set_option maxHeartbeats 1000000 in
theorem tails_any (bs : List Int) (A : Option Addr) (n c : Nat) (w : World) (hn : bs.length = n) (hm : n ≤ 100000) (hr : Row w w.heap.size A (cl .u8 bs)) :
    Calls Try.prog 31 #[.slice A n c] w fun e w' => e = .returned (.bool (tailsM bs)) ∧ w = w' := by
  have HN := Lib.hid hn
  clear hn
  go_enter Try.func31, Try.ntmps31
  go_wp2
  go_loop [3] (fun i => ∃ k : Nat, 1 ≤ k ∧ i = .int .i64 k ∧ ∀ j y, 1 ≤ j → j < k → bs[j]? = some y → 128 ≤ y ∧ y ≤ 191) (fun i => n - (intOf i).toNat)
  case atStart => exact ⟨1, by omega, rfl, fun j y h1 h2 _ => by omega⟩
  case round =>
    obtain ⟨k, hk1, rfl, hall⟩ := hrel
    have HA := Lib.hid hall
    clear hall
    by_cases hlt : k < n
    · have hkl : k < bs.length := by rw [HN.out]; exact hlt
      obtain ⟨b, off, rfl, _, hc⟩ := hr.at_ (by simp; omega)
      have hcell := hc k (by simp; omega)
      rw [cl_get _ _ _ hkl] at hcell
      obtain ⟨y, hy⟩ : ∃ y, bs[k] = y := ⟨_, rfl⟩
      rw [hy] at hcell
      have hbs : bs[k]? = some y := by rw [← hy]; exact List.getElem?_eq_getElem _
      have HB := Lib.hid hbs
      clear hc hr hy hbs
      by_cases h1 : y < 128
      · have HT := Lib.hid (tails_false HB.out hk1 (by omega))
        go_wp2
        go_ret
        exact ⟨ret_bool HT.out.symm, rfl⟩
      by_cases h2 : 191 < y
      · have HT := Lib.hid (tails_false HB.out hk1 (by omega))
        go_wp2
        go_ret
        exact ⟨ret_bool HT.out.symm, rfl⟩
      · go_wp2
        go_round
        case rel =>
          refine ⟨k + 1, by omega, by go_num, fun j z a1 a2 hz => ?_⟩
          by_cases hjk : j < k
          · exact HA.out j z a1 hjk hz
          · obtain rfl : j = k := by omega
            rw [HB.out] at hz
            injection hz with hz
            omega
        case measure => simp [intOf]; omega
    · go_wp2
      go_ret
      refine ⟨ret_bool (tails_true fun j y h1 hy => HA.out j y h1 ?_ hy).symm, rfl⟩
      have := (List.getElem?_eq_some_iff.1 hy).1
      rw [HN.out] at this
      omega

def nb (i : Nat) : Int := if i ≤ 1 then 300 else if i = 2 then 20000 else if i = 3 then 1300000 else 84000000
theorem nb_le {i : Nat} {x : Int} (h : i < 4) (h1 : -nb i ≤ x) (h2 : x ≤ nb i) : -1300000 ≤ x ∧ x ≤ 1300000 := by
  have : i = 0 ∨ i = 1 ∨ i = 2 ∨ i = 3 := by omega
  rcases this with rfl | rfl | rfl | rfl <;> simp [nb] at h1 h2 <;> omega
theorem nb_step {i : Nat} {x y : Int} (h0 : 1 ≤ i) (h : i < 4) (h1 : -nb i ≤ x) (h2 : x ≤ nb i) (h3 : -191 ≤ y) (h4 : y ≤ 191) : -nb (i + 1) ≤ 64 * x + y ∧ 64 * x + y ≤ nb (i + 1) := by
  have : i = 1 ∨ i = 2 ∨ i = 3 := by omega
  rcases this with rfl | rfl | rfl <;> simp [nb] at h1 h2 ⊢ <;> omega

def NRel (bs : List Int) (n : Nat) (fill : Int) (x i : Value) : Prop :=
  ∃ (k : Nat) (x' : Int), 1 ≤ k ∧ i = .int .i64 k ∧ x = .int .i64 x' ∧ -nb k ≤ x' ∧ x' ≤ nb k ∧ numGo bs fill (n - k) k x' = num bs n fill

theorem numGo_step {bs : List Int} {fill : Int} {n k : Nat} {x : Int} (h : k < n) : numGo bs fill (n - k) k x = numGo bs fill (n - (k + 1)) (k + 1) (64 * x + digit bs[k]? fill) := by
  rw [show n - k = (n - (k + 1)) + 1 from by omega]
  rfl

set_option maxHeartbeats 2000000 in
theorem number_core (bs : List Int) (b off n c m : Nat) (fill c0 x0 : Int) (w : World) (hn : bs.length = n) (hm : n ≤ 100000) (hby : Byt bs) (hc : ∀ k, k < (cl .u8 bs).length → w.cell? ⟨b, off + k, none⟩ = (cl .u8 bs)[k]?)
    (hc0 : w.cell? ⟨b, off, none⟩ = some (.int .u8 c0)) (h00 : 0 ≤ c0) (h05 : c0 ≤ 255) (h1 : 1 ≤ n) (hm4 : m ≤ 4) (hf0 : 0 ≤ fill) (hf1 : fill ≤ 63)
    (hx : num bs m fill = numGo bs fill (m - 1) 1 x0) (hx0 : -300 ≤ x0) (hx1 : x0 ≤ 300)
    (hcase : (m = 2 ∧ x0 = c0 - 192) ∨ (m = 3 ∧ x0 = c0 - 224) ∨ (m = 4 ∧ x0 = c0 - 240) ∨ (m ≠ 2 ∧ m ≠ 3 ∧ m ≠ 4 ∧ x0 = c0)) :
    Calls Try.prog 26 #[.slice (some ⟨b, off, none⟩) n c, .int .i64 m, .int .i64 fill] w fun e w' => e = .returned (.int .i64 (num bs m fill)) ∧ w = w' := by
  have HN := Lib.hid hn
  have HX := Lib.hid hx
  have HC := Lib.hid hc
  have HB := Lib.hid hby
  clear hn hx hc hby
  rcases hcase with ⟨e, rfl⟩ | ⟨e, rfl⟩ | ⟨e, rfl⟩ | ⟨g2, g3, g4, rfl⟩
  · have q2 : ((m : Int) == 2) = true := by simp; omega
    clear e
    go_enter Try.func26, Try.ntmps26
    go_wp2
    go_loop [7, 8] (fun x i => NRel bs m fill x i) (fun _ i => m - (intOf i).toNat)
    case atStart => exact ⟨1, _, by omega, rfl, rfl, by simp [nb]; omega, by simp [nb]; omega, HX.out.symm⟩
    case round =>
      obtain ⟨k, x', hk1, rfl, rfl, hl, hh, hgo⟩ := hrel
      have HG := Lib.hid hgo
      have HL := Lib.hid hl
      have HH := Lib.hid hh
      clear hgo hl hh
      by_cases hlt : k < m
      · have hb := nb_le (by omega) HL.out HH.out
        by_cases hkn : k < n
        · have hkl : k < bs.length := by rw [HN.out]; exact hkn
          have hcell := HC.out k (by simp; omega)
          rw [cl_get _ _ _ hkl] at hcell
          obtain ⟨y, hy⟩ : ∃ y, bs[k] = y := ⟨_, rfl⟩
          have hyr : 0 ≤ y ∧ y ≤ 255 := by rw [← hy]; exact HB.out _ (List.getElem_mem _)
          rw [hy] at hcell
          have HD : Hid (digit bs[k]? fill = y - 128) := Lib.hid (by rw [List.getElem?_eq_getElem hkl, hy, digit_some])
          clear hy
          have hst := nb_step (y := y - 128) hk1 (by omega) HL.out HH.out (by omega) (by omega)
          have HST := Lib.hid hst
          clear hst
          go_wp2
          go_round
          case rel => exact ⟨k + 1, 64 * x' + (y - 128), by omega, by go_num, by go_num, HST.out.1, HST.out.2, by rw [← HG.out, numGo_step hlt, HD.out]⟩
          case measure => simp [intOf]; omega
        · have HD : Hid (digit bs[k]? fill = fill) := Lib.hid (by rw [List.getElem?_eq_none (by rw [HN.out]; omega), digit_none])
          have hst := nb_step (y := fill) hk1 (by omega) HL.out HH.out (by omega) (by omega)
          have HST := Lib.hid hst
          clear hst
          go_wp2
          go_round
          case rel => exact ⟨k + 1, 64 * x' + fill, by omega, by go_num, by go_num, HST.out.1, HST.out.2, by rw [← HG.out, numGo_step hlt, HD.out]⟩
          case measure => simp [intOf]; omega
      · go_wp2
        go_ret
        refine ⟨ret_int ?_, rfl⟩
        rw [← HG.out, show m - k = 0 from by omega]
        rfl
  · have q2 : ((m : Int) == 2) = false := by simp; omega
    have q3 : ((m : Int) == 3) = true := by simp; omega
    clear e
    go_enter Try.func26, Try.ntmps26
    go_wp2
    go_loop [7, 8] (fun x i => NRel bs m fill x i) (fun _ i => m - (intOf i).toNat)
    case atStart => exact ⟨1, _, by omega, rfl, rfl, by simp [nb]; omega, by simp [nb]; omega, HX.out.symm⟩
    case round =>
      obtain ⟨k, x', hk1, rfl, rfl, hl, hh, hgo⟩ := hrel
      have HG := Lib.hid hgo
      have HL := Lib.hid hl
      have HH := Lib.hid hh
      clear hgo hl hh
      by_cases hlt : k < m
      · have hb := nb_le (by omega) HL.out HH.out
        by_cases hkn : k < n
        · have hkl : k < bs.length := by rw [HN.out]; exact hkn
          have hcell := HC.out k (by simp; omega)
          rw [cl_get _ _ _ hkl] at hcell
          obtain ⟨y, hy⟩ : ∃ y, bs[k] = y := ⟨_, rfl⟩
          have hyr : 0 ≤ y ∧ y ≤ 255 := by rw [← hy]; exact HB.out _ (List.getElem_mem _)
          rw [hy] at hcell
          have HD : Hid (digit bs[k]? fill = y - 128) := Lib.hid (by rw [List.getElem?_eq_getElem hkl, hy, digit_some])
          clear hy
          have hst := nb_step (y := y - 128) hk1 (by omega) HL.out HH.out (by omega) (by omega)
          have HST := Lib.hid hst
          clear hst
          go_wp2
          go_round
          case rel => exact ⟨k + 1, 64 * x' + (y - 128), by omega, by go_num, by go_num, HST.out.1, HST.out.2, by rw [← HG.out, numGo_step hlt, HD.out]⟩
          case measure => simp [intOf]; omega
        · have HD : Hid (digit bs[k]? fill = fill) := Lib.hid (by rw [List.getElem?_eq_none (by rw [HN.out]; omega), digit_none])
          have hst := nb_step (y := fill) hk1 (by omega) HL.out HH.out (by omega) (by omega)
          have HST := Lib.hid hst
          clear hst
          go_wp2
          go_round
          case rel => exact ⟨k + 1, 64 * x' + fill, by omega, by go_num, by go_num, HST.out.1, HST.out.2, by rw [← HG.out, numGo_step hlt, HD.out]⟩
          case measure => simp [intOf]; omega
      · go_wp2
        go_ret
        refine ⟨ret_int ?_, rfl⟩
        rw [← HG.out, show m - k = 0 from by omega]
        rfl
  · have q2 : ((m : Int) == 2) = false := by simp; omega
    have q3 : ((m : Int) == 3) = false := by simp; omega
    have q4 : ((m : Int) == 4) = true := by simp; omega
    clear e
    go_enter Try.func26, Try.ntmps26
    go_wp2
    go_loop [7, 8] (fun x i => NRel bs m fill x i) (fun _ i => m - (intOf i).toNat)
    case atStart => exact ⟨1, _, by omega, rfl, rfl, by simp [nb]; omega, by simp [nb]; omega, HX.out.symm⟩
    case round =>
      obtain ⟨k, x', hk1, rfl, rfl, hl, hh, hgo⟩ := hrel
      have HG := Lib.hid hgo
      have HL := Lib.hid hl
      have HH := Lib.hid hh
      clear hgo hl hh
      by_cases hlt : k < m
      · have hb := nb_le (by omega) HL.out HH.out
        by_cases hkn : k < n
        · have hkl : k < bs.length := by rw [HN.out]; exact hkn
          have hcell := HC.out k (by simp; omega)
          rw [cl_get _ _ _ hkl] at hcell
          obtain ⟨y, hy⟩ : ∃ y, bs[k] = y := ⟨_, rfl⟩
          have hyr : 0 ≤ y ∧ y ≤ 255 := by rw [← hy]; exact HB.out _ (List.getElem_mem _)
          rw [hy] at hcell
          have HD : Hid (digit bs[k]? fill = y - 128) := Lib.hid (by rw [List.getElem?_eq_getElem hkl, hy, digit_some])
          clear hy
          have hst := nb_step (y := y - 128) hk1 (by omega) HL.out HH.out (by omega) (by omega)
          have HST := Lib.hid hst
          clear hst
          go_wp2
          go_round
          case rel => exact ⟨k + 1, 64 * x' + (y - 128), by omega, by go_num, by go_num, HST.out.1, HST.out.2, by rw [← HG.out, numGo_step hlt, HD.out]⟩
          case measure => simp [intOf]; omega
        · have HD : Hid (digit bs[k]? fill = fill) := Lib.hid (by rw [List.getElem?_eq_none (by rw [HN.out]; omega), digit_none])
          have hst := nb_step (y := fill) hk1 (by omega) HL.out HH.out (by omega) (by omega)
          have HST := Lib.hid hst
          clear hst
          go_wp2
          go_round
          case rel => exact ⟨k + 1, 64 * x' + fill, by omega, by go_num, by go_num, HST.out.1, HST.out.2, by rw [← HG.out, numGo_step hlt, HD.out]⟩
          case measure => simp [intOf]; omega
      · go_wp2
        go_ret
        refine ⟨ret_int ?_, rfl⟩
        rw [← HG.out, show m - k = 0 from by omega]
        rfl
  · have q2 : ((m : Int) == 2) = false := by simp; omega
    have q3 : ((m : Int) == 3) = false := by simp; omega
    have q4 : ((m : Int) == 4) = false := by simp; omega
    clear g2 g3 g4
    go_enter Try.func26, Try.ntmps26
    go_wp2
    go_loop [7, 8] (fun x i => NRel bs m fill x i) (fun _ i => m - (intOf i).toNat)
    case atStart => exact ⟨1, _, by omega, rfl, rfl, by simp [nb]; omega, by simp [nb]; omega, HX.out.symm⟩
    case round =>
      obtain ⟨k, x', hk1, rfl, rfl, hl, hh, hgo⟩ := hrel
      have HG := Lib.hid hgo
      have HL := Lib.hid hl
      have HH := Lib.hid hh
      clear hgo hl hh
      by_cases hlt : k < m
      · have hb := nb_le (by omega) HL.out HH.out
        by_cases hkn : k < n
        · have hkl : k < bs.length := by rw [HN.out]; exact hkn
          have hcell := HC.out k (by simp; omega)
          rw [cl_get _ _ _ hkl] at hcell
          obtain ⟨y, hy⟩ : ∃ y, bs[k] = y := ⟨_, rfl⟩
          have hyr : 0 ≤ y ∧ y ≤ 255 := by rw [← hy]; exact HB.out _ (List.getElem_mem _)
          rw [hy] at hcell
          have HD : Hid (digit bs[k]? fill = y - 128) := Lib.hid (by rw [List.getElem?_eq_getElem hkl, hy, digit_some])
          clear hy
          have hst := nb_step (y := y - 128) hk1 (by omega) HL.out HH.out (by omega) (by omega)
          have HST := Lib.hid hst
          clear hst
          go_wp2
          go_round
          case rel => exact ⟨k + 1, 64 * x' + (y - 128), by omega, by go_num, by go_num, HST.out.1, HST.out.2, by rw [← HG.out, numGo_step hlt, HD.out]⟩
          case measure => simp [intOf]; omega
        · have HD : Hid (digit bs[k]? fill = fill) := Lib.hid (by rw [List.getElem?_eq_none (by rw [HN.out]; omega), digit_none])
          have hst := nb_step (y := fill) hk1 (by omega) HL.out HH.out (by omega) (by omega)
          have HST := Lib.hid hst
          clear hst
          go_wp2
          go_round
          case rel => exact ⟨k + 1, 64 * x' + fill, by omega, by go_num, by go_num, HST.out.1, HST.out.2, by rw [← HG.out, numGo_step hlt, HD.out]⟩
          case measure => simp [intOf]; omega
      · go_wp2
        go_ret
        refine ⟨ret_int ?_, rfl⟩
        rw [← HG.out, show m - k = 0 from by omega]
        rfl

theorem number_any (bs : List Int) (A : Option Addr) (n c m : Nat) (fill : Int) (w : World) (hn : bs.length = n) (h1 : 1 ≤ n) (hm : n ≤ 100000) (hby : Byt bs) (hr : Row w w.heap.size A (cl .u8 bs)) (hm4 : m ≤ 4) (hf0 : 0 ≤ fill) (hf1 : fill ≤ 63) :
    Calls Try.prog 26 #[.slice A n c, .int .i64 m, .int .i64 fill] w fun e w' => e = .returned (.int .i64 (num bs m fill)) ∧ w = w' := by
  obtain ⟨b, off, rfl, _, hc⟩ := hr.at_ (by simp; omega)
  cases bs with
  | nil => simp at hn; omega
  | cons c0 t =>
    have hc0 := hc 0 (by simp)
    rw [cl_get _ _ _ (by simp), Nat.add_zero] at hc0
    have hb := hby c0 (by simp)
    refine number_core (c0 :: t) b off n c m fill c0 (numHead c0 m) w hn hm hby hc hc0 hb.1 hb.2 h1 hm4 hf0 hf1 rfl ?_ ?_ ?_
    · unfold numHead
      repeat' split
      all_goals omega
    · unfold numHead
      repeat' split
      all_goals omega
    · unfold numHead
      by_cases a2 : m = 2
      · exact .inl ⟨a2, by simp [a2]⟩
      by_cases a3 : m = 3
      · exact .inr (.inl ⟨a3, by simp [a3]⟩)
      by_cases a4 : m = 4
      · exact .inr (.inr (.inl ⟨a4, by simp [a4]⟩))
      · exact .inr (.inr (.inr ⟨a2, a3, a4, by simp [a2, a3, a4]⟩))

end Go.Proofs.Ytignohjphblpdaa
