/-
  context: tests of the whole label; joining types beside a place.
-/
import Derived.Test.YtmeihnhghdmjiaaGreatDoorCtxA
import Derived.Deep.LoopGhost
namespace Go.Proofs.YtmeihnhghdmjiaaGreatDoor.Ctx
open Go.RowKit Ucd

set_option maxRecDepth 100000 in
set_option maxHeartbeats 1000000 in
theorem arabic_any (r : Int) (w : World) : Calls Tryz.prog 25 #[.int .i32 r] w (IsB (ara r) w) := by
  unfold ara
  by_cases h0 : 1632 ≤ r
  · by_cases h1 : r < 1642
    · go_enter Tryz.func25, Tryz.ntmps25
      go_wp2
      go_ret
      exact ⟨by simp [h0, h1], Below.refl _ _⟩
    · go_enter Tryz.func25, Tryz.ntmps25
      go_wp2
      go_ret
      exact ⟨by simp; omega, Below.refl _ _⟩
  · go_enter Tryz.func25, Tryz.ntmps25
    go_wp2
    go_ret
    exact ⟨by simp; omega, Below.refl _ _⟩
set_option maxRecDepth 100000 in
set_option maxHeartbeats 1000000 in
theorem east_any (r : Int) (w : World) : Calls Tryz.prog 26 #[.int .i32 r] w (IsB (eas r) w) := by
  unfold eas
  by_cases h0 : 1776 ≤ r
  · by_cases h1 : r < 1786
    · go_enter Tryz.func26, Tryz.ntmps26
      go_wp2
      go_ret
      exact ⟨by simp [h0, h1], Below.refl _ _⟩
    · go_enter Tryz.func26, Tryz.ntmps26
      go_wp2
      go_ret
      exact ⟨by simp; omega, Below.refl _ _⟩
  · go_enter Tryz.func26, Tryz.ntmps26
    go_wp2
    go_ret
    exact ⟨by simp; omega, Below.refl _ _⟩
set_option maxRecDepth 100000 in
set_option maxHeartbeats 1000000 in
theorem japanese_any (r : Int) (w : World) : Calls Tryz.prog 34 #[.int .i32 r] w (IsB (jap r) w) := by
  unfold jap sc
  have HO := Lib.hid (fun w => Of_any r w)
  have HR := fun w => (fld (of r) w).2.2
  generalize of r = p at HO HR ⊢
  obtain ⟨y, hy⟩ : ∃ y, g p 4 = y := ⟨_, rfl⟩
  rw [hy] at HR ⊢
  clear hy
  by_cases h8 : y = 8
  · go_enter Tryz.func34, Tryz.ntmps34
    go_wp2_with (first | (go_at_call 29; refine (HO.out _).mono ?_; rintro e w1 ⟨rfl, hB1⟩) | fail)
    go_ret
    exact ⟨by simp [h8], hB1⟩
  · by_cases h9 : y = 9
    · go_enter Tryz.func34, Tryz.ntmps34
      go_wp2_with (first | (go_at_call 29; refine (HO.out _).mono ?_; rintro e w1 ⟨rfl, hB1⟩) | fail)
      go_ret
      exact ⟨by simp [h9], hB1⟩
    · by_cases h10 : y = 10
      · go_enter Tryz.func34, Tryz.ntmps34
        go_wp2_with (first | (go_at_call 29; refine (HO.out _).mono ?_; rintro e w1 ⟨rfl, hB1⟩) | fail)
        go_ret
        exact ⟨by simp [h10], hB1⟩
      · go_enter Tryz.func34, Tryz.ntmps34
        go_wp2_with (first | (go_at_call 29; refine (HO.out _).mono ?_; rintro e w1 ⟨rfl, hB1⟩) | fail)
        go_ret
        exact ⟨by simp [h8, h9, h10], hB1⟩
/-- a place, or none -/
def PlaceB (q : Bool) (w : World) (e : Ending) (w' : World) : Prop := ∃ i : Int, e = .returned (.int .i64 i) ∧ decide (0 ≤ i) = q ∧ Below w.heap.size w w'
set_option maxRecDepth 100000 in
set_option maxHeartbeats 1000000 in
theorem Index_arabic (l : List Int) (A : Option Addr) (n c : Nat) (w : World) (hn : l.length = n) (hn1 : n ≤ 1000000) (hr : Row w w.heap.size A (cl .i32 l)) : Calls Tryz.prog 47 #[.slice A n c, .func (.func 25) #[] #[]] w (PlaceB (l.any ara) w) := by
  have HN := Lib.hid hn
  clear hn
  go_enter Tryz.func47, Tryz.ntmps47
  go_wp2_with fail
  go_loopg [8] n (fun m s8 wr => ∃ k : Nat, s8 = .int .i64 (k : Int) ∧ m = n - k ∧ k ≤ n ∧ Hid (∀ j, j < k → ara l[j]! = false) ∧ Below w.heap.size w wr)
  case atStart => exact ⟨0, rfl, rfl, Nat.zero_le _, Lib.hid (fun j hj => by omega), Below.refl _ _⟩
  case round =>
    obtain ⟨k, rfl, rfl, hk, HNo, hB⟩ := hrel
    by_cases hlt : k < n
    · have hltz : (k : Int) < (n : Int) := by omega
      obtain ⟨b, o, rfl, hb, hcc⟩ := (hr.below hB).at_ (by have := HN.out; simp; omega)
      have c0 := row_cell hcc k (by rw [HN.out]; exact hlt)
      have hm := mems (l := l) (i := k) (by rw [HN.out]; exact hlt)
      obtain ⟨y, hy⟩ : ∃ y, l[k]! = y := ⟨_, rfl⟩
      rw [hy] at c0 hm
      have HY := Lib.hid hy
      have HM := Lib.hid hm
      have HC := Lib.hid (fun w => arabic_any y w)
      obtain ⟨q, hq⟩ : ∃ q, ara y = q := ⟨_, rfl⟩
      rw [hq] at HC
      have HV := Lib.hid hq
      clear hcc hy hm hq
      cases q with
      | true =>
        have HQ : Hid (l.any ara = true) := Lib.hid (List.any_eq_true.2 ⟨y, HM.out, HV.out⟩)
        go_wp2_with (first | (go_at_call 25; refine (HC.out _).mono ?_; rintro e w1 ⟨rfl, hB1⟩) | fail)
        go_ret
        exact ⟨k, rfl, by rw [HQ.out]; exact decide_eq_true (by omega), hB.trans (hB1.mono hB.size)⟩
      | false =>
        go_wp2_with (first | (go_at_call 25; refine (HC.out _).mono ?_; rintro e w1 ⟨rfl, hB1⟩) | fail)
        go_roundg (n - (k + 1))
        case measure => omega
        case rel =>
          refine ⟨k + 1, by go_num, rfl, by omega, Lib.hid (fun j hj => ?_), hB.trans (hB1.mono hB.size)⟩
          by_cases hjk : j = k
          · subst hjk; rw [HY.out]; exact HV.out
          · exact HNo.out j (by omega)
    · obtain rfl : k = n := by omega
      have hltz : ¬ ((k : Nat) : Int) < (k : Int) := by omega
      have HQ : Hid (l.any ara = false) := Lib.hid (by
        rw [List.any_eq_false]
        intro r h
        obtain ⟨j, hj, e⟩ := List.getElem_of_mem h
        have := HNo.out j (by have := HN.out; omega)
        rw [getElem!_pos l j hj, e] at this
        rw [this]
        simp)
      go_wp2_with fail
      go_ret
      exact ⟨-1, rfl, by rw [HQ.out]; rfl, hB⟩
theorem Contains_arabic (l : List Int) (A : Option Addr) (n c : Nat) (w : World) (hn : l.length = n) (hn1 : n ≤ 1000000) (hr : Row w w.heap.size A (cl .i32 l)) : Calls Tryz.prog 33 #[.slice A n c, .func (.func 25) #[] #[]] w (IsB (l.any ara) w) := by
  have HI := Lib.hid (Index_arabic l A n c w hn hn1 hr)
  generalize l.any ara = q at HI ⊢
  clear hn hr
  go_enter Tryz.func33, Tryz.ntmps33
  go_wp2_with (first | (go_at_call 47; refine HI.out.mono ?_; rintro e w1 ⟨i, rfl, hi, hB1⟩) | fail)
  go_ret
  exact ⟨by rw [← hi]; first | rfl | simp, hB1⟩
set_option maxRecDepth 100000 in
set_option maxHeartbeats 1000000 in
theorem Index_east (l : List Int) (A : Option Addr) (n c : Nat) (w : World) (hn : l.length = n) (hn1 : n ≤ 1000000) (hr : Row w w.heap.size A (cl .i32 l)) : Calls Tryz.prog 47 #[.slice A n c, .func (.func 26) #[] #[]] w (PlaceB (l.any eas) w) := by
  have HN := Lib.hid hn
  clear hn
  go_enter Tryz.func47, Tryz.ntmps47
  go_wp2_with fail
  go_loopg [8] n (fun m s8 wr => ∃ k : Nat, s8 = .int .i64 (k : Int) ∧ m = n - k ∧ k ≤ n ∧ Hid (∀ j, j < k → eas l[j]! = false) ∧ Below w.heap.size w wr)
  case atStart => exact ⟨0, rfl, rfl, Nat.zero_le _, Lib.hid (fun j hj => by omega), Below.refl _ _⟩
  case round =>
    obtain ⟨k, rfl, rfl, hk, HNo, hB⟩ := hrel
    by_cases hlt : k < n
    · have hltz : (k : Int) < (n : Int) := by omega
      obtain ⟨b, o, rfl, hb, hcc⟩ := (hr.below hB).at_ (by have := HN.out; simp; omega)
      have c0 := row_cell hcc k (by rw [HN.out]; exact hlt)
      have hm := mems (l := l) (i := k) (by rw [HN.out]; exact hlt)
      obtain ⟨y, hy⟩ : ∃ y, l[k]! = y := ⟨_, rfl⟩
      rw [hy] at c0 hm
      have HY := Lib.hid hy
      have HM := Lib.hid hm
      have HC := Lib.hid (fun w => east_any y w)
      obtain ⟨q, hq⟩ : ∃ q, eas y = q := ⟨_, rfl⟩
      rw [hq] at HC
      have HV := Lib.hid hq
      clear hcc hy hm hq
      cases q with
      | true =>
        have HQ : Hid (l.any eas = true) := Lib.hid (List.any_eq_true.2 ⟨y, HM.out, HV.out⟩)
        go_wp2_with (first | (go_at_call 26; refine (HC.out _).mono ?_; rintro e w1 ⟨rfl, hB1⟩) | fail)
        go_ret
        exact ⟨k, rfl, by rw [HQ.out]; exact decide_eq_true (by omega), hB.trans (hB1.mono hB.size)⟩
      | false =>
        go_wp2_with (first | (go_at_call 26; refine (HC.out _).mono ?_; rintro e w1 ⟨rfl, hB1⟩) | fail)
        go_roundg (n - (k + 1))
        case measure => omega
        case rel =>
          refine ⟨k + 1, by go_num, rfl, by omega, Lib.hid (fun j hj => ?_), hB.trans (hB1.mono hB.size)⟩
          by_cases hjk : j = k
          · subst hjk; rw [HY.out]; exact HV.out
          · exact HNo.out j (by omega)
    · obtain rfl : k = n := by omega
      have hltz : ¬ ((k : Nat) : Int) < (k : Int) := by omega
      have HQ : Hid (l.any eas = false) := Lib.hid (by
        rw [List.any_eq_false]
        intro r h
        obtain ⟨j, hj, e⟩ := List.getElem_of_mem h
        have := HNo.out j (by have := HN.out; omega)
        rw [getElem!_pos l j hj, e] at this
        rw [this]
        simp)
      go_wp2_with fail
      go_ret
      exact ⟨-1, rfl, by rw [HQ.out]; rfl, hB⟩
theorem Contains_east (l : List Int) (A : Option Addr) (n c : Nat) (w : World) (hn : l.length = n) (hn1 : n ≤ 1000000) (hr : Row w w.heap.size A (cl .i32 l)) : Calls Tryz.prog 33 #[.slice A n c, .func (.func 26) #[] #[]] w (IsB (l.any eas) w) := by
  have HI := Lib.hid (Index_east l A n c w hn hn1 hr)
  generalize l.any eas = q at HI ⊢
  clear hn hr
  go_enter Tryz.func33, Tryz.ntmps33
  go_wp2_with (first | (go_at_call 47; refine HI.out.mono ?_; rintro e w1 ⟨i, rfl, hi, hB1⟩) | fail)
  go_ret
  exact ⟨by rw [← hi]; first | rfl | simp, hB1⟩
set_option maxRecDepth 100000 in
set_option maxHeartbeats 1000000 in
theorem Index_japanese (l : List Int) (A : Option Addr) (n c : Nat) (w : World) (hn : l.length = n) (hn1 : n ≤ 1000000) (hr : Row w w.heap.size A (cl .i32 l)) : Calls Tryz.prog 47 #[.slice A n c, .func (.func 34) #[] #[]] w (PlaceB (l.any jap) w) := by
  have HN := Lib.hid hn
  clear hn
  go_enter Tryz.func47, Tryz.ntmps47
  go_wp2_with fail
  go_loopg [8] n (fun m s8 wr => ∃ k : Nat, s8 = .int .i64 (k : Int) ∧ m = n - k ∧ k ≤ n ∧ Hid (∀ j, j < k → jap l[j]! = false) ∧ Below w.heap.size w wr)
  case atStart => exact ⟨0, rfl, rfl, Nat.zero_le _, Lib.hid (fun j hj => by omega), Below.refl _ _⟩
  case round =>
    obtain ⟨k, rfl, rfl, hk, HNo, hB⟩ := hrel
    by_cases hlt : k < n
    · have hltz : (k : Int) < (n : Int) := by omega
      obtain ⟨b, o, rfl, hb, hcc⟩ := (hr.below hB).at_ (by have := HN.out; simp; omega)
      have c0 := row_cell hcc k (by rw [HN.out]; exact hlt)
      have hm := mems (l := l) (i := k) (by rw [HN.out]; exact hlt)
      obtain ⟨y, hy⟩ : ∃ y, l[k]! = y := ⟨_, rfl⟩
      rw [hy] at c0 hm
      have HY := Lib.hid hy
      have HM := Lib.hid hm
      have HC := Lib.hid (fun w => japanese_any y w)
      obtain ⟨q, hq⟩ : ∃ q, jap y = q := ⟨_, rfl⟩
      rw [hq] at HC
      have HV := Lib.hid hq
      clear hcc hy hm hq
      cases q with
      | true =>
        have HQ : Hid (l.any jap = true) := Lib.hid (List.any_eq_true.2 ⟨y, HM.out, HV.out⟩)
        go_wp2_with (first | (go_at_call 34; refine (HC.out _).mono ?_; rintro e w1 ⟨rfl, hB1⟩) | fail)
        go_ret
        exact ⟨k, rfl, by rw [HQ.out]; exact decide_eq_true (by omega), hB.trans (hB1.mono hB.size)⟩
      | false =>
        go_wp2_with (first | (go_at_call 34; refine (HC.out _).mono ?_; rintro e w1 ⟨rfl, hB1⟩) | fail)
        go_roundg (n - (k + 1))
        case measure => omega
        case rel =>
          refine ⟨k + 1, by go_num, rfl, by omega, Lib.hid (fun j hj => ?_), hB.trans (hB1.mono hB.size)⟩
          by_cases hjk : j = k
          · subst hjk; rw [HY.out]; exact HV.out
          · exact HNo.out j (by omega)
    · obtain rfl : k = n := by omega
      have hltz : ¬ ((k : Nat) : Int) < (k : Int) := by omega
      have HQ : Hid (l.any jap = false) := Lib.hid (by
        rw [List.any_eq_false]
        intro r h
        obtain ⟨j, hj, e⟩ := List.getElem_of_mem h
        have := HNo.out j (by have := HN.out; omega)
        rw [getElem!_pos l j hj, e] at this
        rw [this]
        simp)
      go_wp2_with fail
      go_ret
      exact ⟨-1, rfl, by rw [HQ.out]; rfl, hB⟩
theorem Contains_japanese (l : List Int) (A : Option Addr) (n c : Nat) (w : World) (hn : l.length = n) (hn1 : n ≤ 1000000) (hr : Row w w.heap.size A (cl .i32 l)) : Calls Tryz.prog 33 #[.slice A n c, .func (.func 34) #[] #[]] w (IsB (l.any jap) w) := by
  have HI := Lib.hid (Index_japanese l A n c w hn hn1 hr)
  generalize l.any jap = q at HI ⊢
  clear hn hr
  go_enter Tryz.func33, Tryz.ntmps33
  go_wp2_with (first | (go_at_call 47; refine HI.out.mono ?_; rintro e w1 ⟨i, rfl, hi, hB1⟩) | fail)
  go_ret
  exact ⟨by rw [← hi]; first | rfl | simp, hB1⟩
set_option maxRecDepth 100000 in
set_option maxHeartbeats 1000000 in
theorem withJapanese_any (l : List Int) (i : Nat) (A : Option Addr) (n c : Nat) (w : World) (hn : l.length = n) (hn1 : n ≤ 1000000) (hr : Row w w.heap.size A (cl .i32 l)) : Calls Tryz.prog 22 #[.slice A n c, .int .i64 (i : Int)] w (IsB (ok l i 5) w) := by
  have HI := Lib.hid (Contains_japanese l A n c w hn hn1 hr)
  have e : ok l i 5 = l.any jap := rfl
  rw [e]
  clear e
  generalize l.any jap = q at HI ⊢
  clear hn hr
  go_enter Tryz.func22, Tryz.ntmps22
  go_wp2_with (first | (go_at_call 33; refine HI.out.mono ?_; rintro e w1 ⟨rfl, hB1⟩) | fail)
  go_ret
  exact ⟨rfl, hB1⟩
set_option maxRecDepth 100000 in
set_option maxHeartbeats 1000000 in
theorem withoutEast_any (l : List Int) (i : Nat) (A : Option Addr) (n c : Nat) (w : World) (hn : l.length = n) (hn1 : n ≤ 1000000) (hr : Row w w.heap.size A (cl .i32 l)) : Calls Tryz.prog 23 #[.slice A n c, .int .i64 (i : Int)] w (IsB (ok l i 6) w) := by
  have HI := Lib.hid (Contains_east l A n c w hn hn1 hr)
  have e : ok l i 6 = !(l.any eas) := rfl
  rw [e]
  clear e
  generalize l.any eas = q at HI ⊢
  clear hn hr
  go_enter Tryz.func23, Tryz.ntmps23
  go_wp2_with (first | (go_at_call 33; refine HI.out.mono ?_; rintro e w1 ⟨rfl, hB1⟩) | fail)
  go_ret
  exact ⟨rfl, hB1⟩
set_option maxRecDepth 100000 in
set_option maxHeartbeats 1000000 in
theorem withoutArabic_any (l : List Int) (i : Nat) (A : Option Addr) (n c : Nat) (w : World) (hn : l.length = n) (hn1 : n ≤ 1000000) (hr : Row w w.heap.size A (cl .i32 l)) : Calls Tryz.prog 24 #[.slice A n c, .int .i64 (i : Int)] w (IsB (ok l i 7) w) := by
  have HI := Lib.hid (Contains_arabic l A n c w hn hn1 hr)
  have e : ok l i 7 = !(l.any ara) := rfl
  rw [e]
  clear e
  generalize l.any ara = q at HI ⊢
  clear hn hr
  go_enter Tryz.func24, Tryz.ntmps24
  go_wp2_with (first | (go_at_call 33; refine HI.out.mono ?_; rintro e w1 ⟨rfl, hB1⟩) | fail)
  go_ret
  exact ⟨rfl, hB1⟩
end Go.Proofs.YtmeihnhghdmjiaaGreatDoor.Ctx
