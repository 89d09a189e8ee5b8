/-
  context: the joining type beside a place, either way; what a non-joiner parts.
-/
import Derived.Test.YtmeihnhghdmjiaaGreatDoorCtxB
namespace Go.Proofs.YtmeihnhghdmjiaaGreatDoor.Ctx
open Go.RowKit Ucd

set_option maxRecDepth 100000 in
set_option maxHeartbeats 1000000 in
theorem joinF_any (l : List Int) (i : Nat) (A : Option Addr) (n c : Nat) (w : World) (hn : l.length = n) (hi : i < n) (hn1 : n ≤ 1000000) (hr : Row w w.heap.size A (cl .i32 l)) : Calls Tryz.prog 31 #[.slice A n c, .int .i64 (i : Int), .int .i64 1] w (Tells (.int .u8 (nxt (l.drop (i + 1)))) w) := by
  have HN := Lib.hid hn
  clear hn
  go_enter Tryz.func31, Tryz.ntmps31
  go_wp2_with fail
  go_loopg [1] (n - (i + 1)) (fun m s1 wr => ∃ k : Nat, s1 = .int .i64 (k : Int) ∧ m = n - k ∧ k ≤ n ∧ Hid (nxt (l.drop k) = nxt (l.drop (i + 1))) ∧ Below w.heap.size w wr)
  case atStart => exact ⟨i + 1, by go_num, rfl, by omega, Lib.hid rfl, Below.refl _ _⟩
  case round =>
    obtain ⟨k, rfl, rfl, hk, HE, hB⟩ := hrel
    have h0z : (0 : Int) ≤ (k : Int) := by omega
    by_cases hlt : k < n
    · have hltz : (k : Int) < (n : Int) := by omega
      obtain ⟨b, o, rfl, hb, hcc⟩ := (hr.below hB).at_ (by have := HN.out; simp; omega)
      have c0 := row_cell hcc k (by rw [HN.out]; exact hlt)
      obtain ⟨y, hy⟩ : ∃ y, l[k]! = y := ⟨_, rfl⟩
      have hnx := nxt_drop (l := l) (k := k) (by rw [HN.out]; exact hlt)
      rw [hy] at c0 hnx
      have HO := Lib.hid (fun w => Of_any y w)
      have HR := fun w => (fld (of y) w).1
      unfold jt at hnx
      generalize of y = p at HO HR hnx
      obtain ⟨j, hj⟩ : ∃ j, g p 2 = j := ⟨_, rfl⟩
      rw [hj] at HR hnx
      have HX : Hid (j = 2 → nxt (l.drop k) = nxt (l.drop (k + 1))) := Lib.hid (fun h => hnx.trans (if_pos h))
      have HY : Hid (¬ j = 2 → nxt (l.drop k) = j) := Lib.hid (fun h => hnx.trans (if_neg h))
      clear hcc hy hj hnx
      by_cases h2 : j = 2
      · subst h2
        go_wp2_with (first | (go_at_call 29; refine (HO.out _).mono ?_; rintro e w1 ⟨rfl, hB1⟩) | fail)
        go_roundg (n - (k + 1))
        case measure => omega
        case rel => exact ⟨k + 1, by go_num, rfl, by omega, Lib.hid ((HX.out (by first | trivial | rfl)).symm.trans HE.out), hB.trans (hB1.mono hB.size)⟩
      · have HJ : Hid (nxt (l.drop (i + 1)) = j) := Lib.hid (HE.out.symm.trans (HY.out h2))
        go_wp2_with (first | (go_at_call 29; refine (HO.out _).mono ?_; rintro e w1 ⟨rfl, hB1⟩) | fail)
        go_ret
        exact ⟨by rw [HJ.out]; rfl, hB.trans (hB1.mono hB.size)⟩
    · obtain rfl : k = n := by omega
      have hltz : ¬ ((k : Nat) : Int) < (k : Int) := by omega
      have HJ : Hid (nxt (l.drop (i + 1)) = 0) := Lib.hid (HE.out.symm.trans (nxt_end (by rw [HN.out]; exact Nat.le_refl _)))
      go_wp2_with fail
      go_ret
      exact ⟨by rw [HJ.out]; rfl, hB⟩

set_option maxRecDepth 100000 in
set_option maxHeartbeats 1000000 in
theorem joinB_any (l : List Int) (i : Nat) (A : Option Addr) (n c : Nat) (w : World) (hn : l.length = n) (hi : i < n) (hn1 : n ≤ 1000000) (hr : Row w w.heap.size A (cl .i32 l)) : Calls Tryz.prog 31 #[.slice A n c, .int .i64 (i : Int), .int .i64 (-1)] w (Tells (.int .u8 (nxt (l.take i).reverse)) w) := by
  have HN := Lib.hid hn
  clear hn
  go_enter Tryz.func31, Tryz.ntmps31
  go_wp2_with fail
  go_loopg [1] i (fun m s1 wr => ∃ k : Nat, s1 = .int .i64 ((k : Int) - 1) ∧ m = k ∧ k ≤ i ∧ Hid (nxt (l.take k).reverse = nxt (l.take i).reverse) ∧ Below w.heap.size w wr)
  case atStart => exact ⟨i, by go_num, rfl, by omega, Lib.hid rfl, Below.refl _ _⟩
  case round =>
    obtain ⟨k, rfl, hm, hk, HE, hB⟩ := hrel
    cases k with
    | succ k =>
      have e1 : ((k + 1 : Nat) : Int) - 1 = (k : Int) := by omega
      rw [e1]
      clear e1
      have h0z : (0 : Int) ≤ (k : Int) := by omega
      have hltz : (k : Int) < (n : Int) := by omega
      obtain ⟨b, o, rfl, hb, hcc⟩ := (hr.below hB).at_ (by have := HN.out; simp; omega)
      have c0 := row_cell hcc k (by rw [HN.out]; omega)
      obtain ⟨y, hy⟩ : ∃ y, l[k]! = y := ⟨_, rfl⟩
      have hnx := nxt_take (l := l) (k := k) (by rw [HN.out]; omega)
      rw [hy] at c0 hnx
      have HO := Lib.hid (fun w => Of_any y w)
      have HR := fun w => (fld (of y) w).1
      unfold jt at hnx
      generalize of y = p at HO HR hnx
      obtain ⟨j, hj⟩ : ∃ j, g p 2 = j := ⟨_, rfl⟩
      rw [hj] at HR hnx
      have HX : Hid (j = 2 → nxt (l.take (k + 1)).reverse = nxt (l.take k).reverse) := Lib.hid (fun h => hnx.trans (if_pos h))
      have HY : Hid (¬ j = 2 → nxt (l.take (k + 1)).reverse = j) := Lib.hid (fun h => hnx.trans (if_neg h))
      clear hcc hy hj hnx
      by_cases h2 : j = 2
      · subst h2
        go_wp2_with (first | (go_at_call 29; refine (HO.out _).mono ?_; rintro e w1 ⟨rfl, hB1⟩) | fail)
        go_roundg k
        case measure => omega
        case rel => exact ⟨k, by go_num, rfl, by omega, Lib.hid ((HX.out (by first | trivial | rfl)).symm.trans HE.out), hB.trans (hB1.mono hB.size)⟩
      · have HJ : Hid (nxt (l.take i).reverse = j) := Lib.hid (HE.out.symm.trans (HY.out h2))
        go_wp2_with (first | (go_at_call 29; refine (HO.out _).mono ?_; rintro e w1 ⟨rfl, hB1⟩) | fail)
        go_ret
        exact ⟨by rw [HJ.out]; rfl, hB.trans (hB1.mono hB.size)⟩
    | zero =>
      have HJ : Hid (nxt (l.take i).reverse = 0) := Lib.hid HE.out.symm
      have e1 : ((0 : Nat) : Int) - 1 = -1 := by omega
      rw [e1]
      clear e1
      go_wp2_with fail
      go_ret
      exact ⟨by rw [HJ.out]; rfl, hB⟩

set_option maxRecDepth 100000 in
set_option maxHeartbeats 1000000 in
theorem joinsOn_any (j : Int) (w : World) : Calls Tryz.prog 30 #[.int .u8 j] w (IsB (on j) w) := by
  unfold on
  by_cases h3 : j = 3
  · go_enter Tryz.func30, Tryz.ntmps30
    go_wp2
    go_ret
    exact ⟨by simp [h3], Below.refl _ _⟩
  · go_enter Tryz.func30, Tryz.ntmps30
    go_wp2
    go_ret
    exact ⟨by first | rfl | simp [h3], Below.refl _ _⟩
set_option maxRecDepth 100000 in
set_option maxHeartbeats 1000000 in
theorem joinsBack_any (j : Int) (w : World) : Calls Tryz.prog 32 #[.int .u8 j] w (IsB (back j) w) := by
  unfold back
  by_cases h3 : j = 3
  · go_enter Tryz.func32, Tryz.ntmps32
    go_wp2
    go_ret
    exact ⟨by simp [h3], Below.refl _ _⟩
  · go_enter Tryz.func32, Tryz.ntmps32
    go_wp2
    go_ret
    exact ⟨by first | rfl | simp [h3], Below.refl _ _⟩

set_option maxRecDepth 100000 in
set_option maxHeartbeats 1000000 in
theorem parts_any (l : List Int) (i : Nat) (A : Option Addr) (n c : Nat) (w : World) (hn : l.length = n) (hi : i < n) (hn1 : n ≤ 1000000) (hr : Row w w.heap.size A (cl .i32 l)) : Calls Tryz.prog 20 #[.slice A n c, .int .i64 (i : Int)] w (IsB (ok l i 3) w) := by
  have e : ok l i 3 = (vir l i || (on (nxt (l.take i).reverse) && back (nxt (l.drop (i + 1))))) := rfl
  rw [e]
  clear e
  have HV := Lib.hid (virama_any l i A n c w hn hi hn1 hr)
  have HA := Lib.hid (fun W (h : Below w.heap.size w W) => joinB_any l i A n c W hn hi hn1 (upR hr h))
  have HF := Lib.hid (fun W (h : Below w.heap.size w W) => joinF_any l i A n c W hn hi hn1 (upR hr h))
  generalize nxt (l.take i).reverse = ja at HA ⊢
  generalize nxt (l.drop (i + 1)) = jf at HF ⊢
  generalize vir l i = v at HV ⊢
  have HOn := Lib.hid (joinsOn_any ja)
  have HBk := Lib.hid (joinsBack_any jf)
  obtain ⟨p, hp⟩ : ∃ p, on ja = p := ⟨_, rfl⟩
  obtain ⟨q, hq⟩ : ∃ q, back jf = q := ⟨_, rfl⟩
  rw [hp] at HOn ⊢
  rw [hq] at HBk ⊢
  clear hp hq hn hi hr
  cases v with
  | true =>
    go_enter Tryz.func20, Tryz.ntmps20
    go_wp2_with (first | (go_at_call 21; refine HV.out.mono ?_; rintro e w1 ⟨rfl, hB1⟩) | fail)
    go_ret
    exact ⟨rfl, hB1⟩
  | false =>
    cases p with
    | false =>
      go_enter Tryz.func20, Tryz.ntmps20
      go_wp2_with (first | (go_at_call 21; refine HV.out.mono ?_; rintro e w1 ⟨rfl, hB1⟩) | (go_at_call 31; refine (HA.out _ hB1).mono ?_; rintro e w2 ⟨rfl, hB2⟩; have hB2' := upB hB1 hB2) | (go_at_call 30; refine (HOn.out _).mono ?_; rintro e w3 ⟨rfl, hB3⟩; have hB3' := upB hB2' hB3) | fail)
      go_ret
      exact ⟨rfl, hB3'⟩
    | true =>
      go_enter Tryz.func20, Tryz.ntmps20
      go_wp2_with (first | (go_at_call 21; refine HV.out.mono ?_; rintro e w1 ⟨rfl, hB1⟩) | (go_at_call 31; refine (HF.out _ hB3').mono ?_; rintro e w4 ⟨rfl, hB4⟩; have hB4' := upB hB3' hB4) | (go_at_call 31; refine (HA.out _ hB1).mono ?_; rintro e w2 ⟨rfl, hB2⟩; have hB2' := upB hB1 hB2) | (go_at_call 30; refine (HOn.out _).mono ?_; rintro e w3 ⟨rfl, hB3⟩; have hB3' := upB hB2' hB3) | (go_at_call 32; refine (HBk.out _).mono ?_; rintro e w5 ⟨rfl, hB5⟩; have hB5' := upB hB4' hB5) | fail)
      go_ret
      exact ⟨by simp, hB5'⟩
set_option maxRecDepth 100000 in
set_option maxHeartbeats 1000000 in
theorem key_any (r : Int) (w : World) : Calls Tryz.prog 11 #[.int .i32 r] w (Tells (.int .i32 (kyv r)) w) := by
  unfold kyv
  have HA := Lib.hid (arabic_any r)
  have HE := Lib.hid (east_any r)
  generalize ara r = p at HA ⊢
  generalize eas r = q at HE ⊢
  cases p with
  | true =>
    go_enter Tryz.func11, Tryz.ntmps11
    go_wp2_with (first | (go_at_call 25; refine (HA.out _).mono ?_; rintro e w1 ⟨rfl, hB1⟩) | fail)
    go_ret
    exact ⟨rfl, hB1⟩
  | false =>
    cases q with
    | true =>
      go_enter Tryz.func11, Tryz.ntmps11
      go_wp2_with (first | (go_at_call 25; refine (HA.out _).mono ?_; rintro e w1 ⟨rfl, hB1⟩) | (go_at_call 26; refine (HE.out _).mono ?_; rintro e w2 ⟨rfl, hB2⟩) | fail)
      go_ret
      exact ⟨rfl, upB hB1 hB2⟩
    | false =>
      go_enter Tryz.func11, Tryz.ntmps11
      go_wp2_with (first | (go_at_call 25; refine (HA.out _).mono ?_; rintro e w1 ⟨rfl, hB1⟩) | (go_at_call 26; refine (HE.out _).mono ?_; rintro e w2 ⟨rfl, hB2⟩) | fail)
      go_ret
      exact ⟨rfl, upB hB1 hB2⟩
end Go.Proofs.YtmeihnhghdmjiaaGreatDoor.Ctx
