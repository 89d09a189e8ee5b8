/-
  fasciaref08: script over the whole label, within, is.
-/
import Derived.Test.YtmeihnhghdmjiaaGreatDoorCtxRA
namespace Go.Proofs.YtmeihnhghdmjiaaGreatDoor.Ctx
open Go.RowKit Ucd

theorem any_no {l : List Int} {p : Int → Bool} (h : ∀ j, j < l.length → p l[j]! = false) : l.any p = false := by
  rw [List.any_eq_false]
  intro r hr
  obtain ⟨j, hj, e⟩ := List.getElem_of_mem hr
  have := h j hj
  rw [getElem!_pos l j hj, e] at this
  rw [this]
  simp
theorem any_yes {l : List Int} {p : Int → Bool} {j : Nat} (hj : j < l.length) (h : p l[j]! = true) : l.any p = true := List.any_eq_true.2 ⟨_, mems hj, h⟩
def scI (s : Int) (r : Int) : Bool := decide (sc r = s)
set_option maxRecDepth 100000 in
set_option maxHeartbeats 2000000 in
theorem scriptAll_any (l : List Int) (s : Int) (A : Option Addr) (n c : Nat) (w : World) (hn : l.length = n) (hn1 : n ≤ 1000000) (hC : C32 l) (hr : Row w w.heap.size A (cl .i32 l)) : Calls Tryz.prog 15 #[.slice A n c, .int .i64 0, .int .i64 (n : Int), .int .u8 s] w (IsB (l.any (scI s)) w) := by
  have HN := Lib.hid hn
  have HC := Lib.hid hC
  clear hn hC
  go_enter Tryz.func15, Tryz.ntmps15
  go_wp2_with fail
  go_loopg [9] (n + 1) (fun m s9 wr => ∃ k : Nat, s9 = .int .i64 (k : Int) ∧ m = n + 1 - k ∧ k ≤ n + 1 ∧ Hid (∀ j, j < k → j < n → scI s l[j]! = false) ∧ Below w.heap.size w wr)
  case atStart => exact ⟨0, rfl, rfl, Nat.zero_le _, Lib.hid (fun j hj => absurd hj (Nat.not_lt_zero _)), Below.refl _ _⟩
  case round =>
    obtain ⟨k, rfl, rfl, hk, HNo, hB⟩ := hrel
    have h0z : (0 : Int) ≤ (k : Int) := by omega
    by_cases hle : k ≤ n
    · have hlez : (k : Int) ≤ (n : Int) := by omega
      by_cases hlt : k < n
      · have hltz : (k : Int) < (n : Int) := by omega
        obtain ⟨b, o, rfl, hb, hcc⟩ := (hr.below hB).at_ (by have := HN.out; simp; omega)
        have c0 := row_cell hcc k (by rw [HN.out]; exact hlt)
        have hc := HC.out _ (mems (l := l) (i := k) (by rw [HN.out]; exact hlt))
        have HT : Hid (scI s l[k]! = true → l.any (scI s) = true) := Lib.hid (fun h => any_yes (by rw [HN.out]; exact hlt) h)
        have HF : Hid (scI s l[k]! = false → ∀ j, j < k + 1 → j < n → scI s l[j]! = false) := Lib.hid (fun h j hj hjn => by
          by_cases e : j = k
          · rw [e]; exact h
          · exact HNo.out j (by omega) hjn)
        obtain ⟨y, hy⟩ : ∃ y, l[k]! = y := ⟨_, rfl⟩
        rw [hy] at c0 hc HT HF
        have HO := Lib.hid (fun w => RefOf_any y w hc.1 hc.2)
        have HR := fun w => (rfld (of y) w).2.2
        unfold scI sc at HT HF
        generalize of y = q at HO HR HT HF
        obtain ⟨z, hz⟩ : ∃ z, g q 4 = z := ⟨_, rfl⟩
        rw [hz] at HR HT HF
        clear hcc hy hz hc HNo
        by_cases hs : z = s
        · have hsb : (z == s) = true := by simpa using hs
          have HTT := Lib.hid (HT.out (decide_eq_true hs))
          clear hs HT HF
          go_wp2_with (first | (go_at_call 12; refine (HO.out _).mono ?_; rintro e w1 ⟨rfl, hB1⟩) | fail)
          go_ret
          exact ⟨congrArg (fun b => Ending.returned (.bool b)) HTT.out.symm, hB.trans (hB1.mono hB.size)⟩
        · have hsb : (z == s) = false := by simpa using hs
          have HFF := Lib.hid (HF.out (decide_eq_false hs))
          clear hs HT HF
          go_wp2_with (first | (go_at_call 12; refine (HO.out _).mono ?_; rintro e w1 ⟨rfl, hB1⟩) | fail)
          go_roundg (n + 1 - (k + 1))
          case measure => omega
          case rel => exact ⟨k + 1, by go_num, rfl, by omega, HFF, hB.trans (hB1.mono hB.size)⟩
      · obtain rfl : k = n := by omega
        have hltz : ¬ ((k : Nat) : Int) < (k : Int) := by omega
        go_wp2_with fail
        go_roundg (k + 1 - (k + 1))
        case measure => omega
        case rel => exact ⟨k + 1, by go_num, rfl, by omega, Lib.hid (fun j hj hjn => HNo.out j hjn hjn), hB⟩
    · have hlez : ¬ (k : Int) ≤ (n : Int) := by omega
      have HJ : Hid (l.any (scI s) = false) := Lib.hid (any_no (fun j hj => HNo.out j (by have := HN.out; omega) (by have := HN.out; omega)))
      go_wp2_with fail
      go_ret
      exact ⟨congrArg (fun b => Ending.returned (.bool b)) HJ.out.symm, hB⟩
def wiI (a b : Int) (r : Int) : Bool := decide (a ≤ r) && decide (r ≤ b)
set_option maxRecDepth 100000 in
set_option maxHeartbeats 2000000 in
theorem within_any (l : List Int) (lo hi : Int) (A : Option Addr) (n c : Nat) (w : World) (hn : l.length = n) (hn1 : n ≤ 1000000) (hr : Row w w.heap.size A (cl .i32 l)) : Calls Tryz.prog 16 #[.slice A n c, .int .i32 lo, .int .i32 hi] w (IsB (l.any (wiI lo hi)) w) := by
  have HN := Lib.hid hn
  clear hn
  go_enter Tryz.func16, Tryz.ntmps16
  go_wp2_with fail
  go_loopg [7] n (fun m s7 wr => ∃ k : Nat, s7 = .int .i64 (k : Int) ∧ m = n - k ∧ k ≤ n ∧ Hid (∀ j, j < k → wiI lo hi l[j]! = false) ∧ Below w.heap.size w wr)
  case atStart => exact ⟨0, rfl, rfl, Nat.zero_le _, Lib.hid (fun j hj => absurd hj (Nat.not_lt_zero _)), Below.refl _ _⟩
  case round =>
    obtain ⟨k, rfl, rfl, hk, HNo, hB⟩ := hrel
    have h0z : (0 : Int) ≤ (k : Int) := by omega
    by_cases hlt : k < n
    · have hltz : (k : Int) < (n : Int) := by omega
      obtain ⟨b, o, rfl, hb, hcc⟩ := (hr.below hB).at_ (by have := HN.out; simp; omega)
      have c0 := row_cell hcc k (by rw [HN.out]; exact hlt)
      have HT : Hid (wiI lo hi l[k]! = true → l.any (wiI lo hi) = true) := Lib.hid (fun h => any_yes (by rw [HN.out]; exact hlt) h)
      have HF : Hid (wiI lo hi l[k]! = false → ∀ j, j < k + 1 → wiI lo hi l[j]! = false) := Lib.hid (fun h j hj => by
        by_cases e : j = k
        · rw [e]; exact h
        · exact HNo.out j (by omega))
      obtain ⟨y, hy⟩ : ∃ y, l[k]! = y := ⟨_, rfl⟩
      rw [hy] at c0 HT HF
      clear hcc hy HNo
      by_cases h1 : lo ≤ y
      · by_cases h2 : y ≤ hi
        · have HTT := Lib.hid (HT.out (by unfold wiI; rw [decide_eq_true h1, decide_eq_true h2]; rfl))
          clear HT HF
          go_wp2_with fail
          go_ret
          exact ⟨congrArg (fun b => Ending.returned (.bool b)) HTT.out.symm, by first | exact hB | exact hB.drew⟩
        · have HFF := Lib.hid (HF.out (by unfold wiI; rw [decide_eq_false h2]; simp))
          clear HT HF
          go_wp2_with fail
          go_roundg (n - (k + 1))
          case measure => omega
          case rel => exact ⟨k + 1, by go_num, rfl, by omega, HFF, by first | exact hB | exact hB.drew⟩
      · have HFF := Lib.hid (HF.out (by unfold wiI; rw [decide_eq_false h1]; rfl))
        clear HT HF
        go_wp2_with fail
        go_roundg (n - (k + 1))
        case measure => omega
        case rel => exact ⟨k + 1, by go_num, rfl, by omega, HFF, by first | exact hB | exact hB.drew⟩
    · obtain rfl : k = n := by omega
      have hltz : ¬ ((k : Nat) : Int) < (k : Int) := by omega
      have HJ : Hid (l.any (wiI lo hi) = false) := Lib.hid (any_no (fun j hj => HNo.out j (by have := HN.out; omega)))
      go_wp2_with fail
      go_ret
      exact ⟨congrArg (fun b => Ending.returned (.bool b)) HJ.out.symm, hB⟩
/-- is the one at a place, if there is such a place, that one? -/
def isA (l : List Int) (x r : Int) : Bool := decide (0 ≤ x) && (decide (x < l.length) && decide (l[x.toNat]! = r))
set_option maxRecDepth 100000 in
set_option maxHeartbeats 2000000 in
theorem isRef_any (l : List Int) (x r : Int) (A : Option Addr) (n c : Nat) (w : World) (hn : l.length = n) (hn1 : n ≤ 1000000) (hr : Row w w.heap.size A (cl .i32 l)) : Calls Tryz.prog 14 #[.slice A n c, .int .i64 x, .int .i32 r] w (IsB (isA l x r) w) := by
  unfold isA
  rw [hn]
  by_cases h0 : 0 ≤ x
  · by_cases h1 : x < n
    · obtain ⟨p, rfl⟩ : ∃ p : Nat, x = (p : Int) := ⟨x.toNat, by omega⟩
      obtain ⟨b, o, rfl, hb, hcc⟩ := hr.at_ (by simp; omega)
      have c0 := row_cell hcc p (by omega)
      have e : ((p : Int)).toNat = p := rfl
      rw [e, decide_eq_true h0, decide_eq_true h1]
      obtain ⟨y, hy⟩ : ∃ y, l[p]! = y := ⟨_, rfl⟩
      rw [hy] at c0 ⊢
      clear hcc hy hn hr e
      go_enter Tryz.func14, Tryz.ntmps14
      go_wp2_with fail
      go_ret
      exact ⟨by first | rfl | simp, Below.refl _ _⟩
    · rw [decide_eq_true h0, decide_eq_false h1]
      clear hn hr
      go_enter Tryz.func14, Tryz.ntmps14
      go_wp2_with fail
      go_ret
      exact ⟨rfl, Below.refl _ _⟩
  · rw [decide_eq_false h0]
    clear hn hr
    go_enter Tryz.func14, Tryz.ntmps14
    go_wp2_with fail
    go_ret
    exact ⟨rfl, Below.refl _ _⟩
end Go.Proofs.YtmeihnhghdmjiaaGreatDoor.Ctx
