/-
  fasciaref09: class, among, some, all, ends.
-/
import Derived.Test.YtnmijmhgmcapcaaDoorRulG
import Derived.Test.YtnmijmhgmcapcaaDoorUcdRefC
import Derived.Deep.DeepCutAuto
namespace Go.Proofs.YtnmijmhgmcapcaaDoor.Rul
open Go.RowKit Ucd

set_option maxRecDepth 100000 in
set_option maxHeartbeats 1000000 in
theorem RefClass_any (r : Int) (h0 : -2147483648 ≤ r) (h1 : r ≤ 2147483647) (w : World) : Calls Tryd.prog 22 #[.int .i32 r] w (Tells (.int .u8 (bc r)) w) := by
  have HO := Lib.hid (fun w => RefOf_any r w h0 h1)
  unfold bc
  have HF := fld1 (of r)
  generalize of r = p at HO HF ⊢
  obtain ⟨y, hy⟩ : ∃ y, g p 1 = y := ⟨_, rfl⟩
  rw [hy] at HF ⊢
  clear hy
  go_enter Tryd.func22, Tryd.ntmps22
  go_wp2_with (first | (go_at_call 37; refine (HO.out _).mono ?_; rintro e w1 ⟨rfl, hB1⟩) | fail)
  go_ret
  exact ⟨rfl, hB1⟩
theorem row_cell8 {w : World} {b o : Nat} {l : List Int} (hc : ∀ k, k < (cl .u8 l).length → w.cell? ⟨b, o + k, none⟩ = (cl .u8 l)[k]?) (k : Nat) (hk : k < l.length) : w.cell? ⟨b, o + k, none⟩ = some (.int .u8 l[k]!) := by
  rw [hc k (by simpa using hk), List.getElem?_map, gets hk]
  rfl
theorem S_yes {ks : List Int} {c : Int} {k : Nat} (hk : k < ks.length) (h : ks[k]! = c) : S ks c = true := by
  unfold S
  rw [List.contains_iff_mem, ← h]
  exact mems hk
theorem S_no {ks : List Int} {c : Int} (h : ∀ j, j < ks.length → ks[j]! ≠ c) : S ks c = false := by
  unfold S
  cases hq : ks.contains c with
  | false => rfl
  | true =>
    rw [List.contains_iff_mem] at hq
    obtain ⟨j, hj, e⟩ := List.getElem_of_mem hq
    exact absurd ((getElem!_pos ks j hj).trans e) (h j hj)
set_option maxRecDepth 100000 in
set_option maxHeartbeats 1000000 in
theorem among_any (c : Int) (ks : List Int) (A : Option Addr) (n cap : Nat) (w : World) (hn : ks.length = n) (hn1 : n ≤ 1000) (hr : Row w w.heap.size A (cl .u8 ks)) : Calls Tryd.prog 34 #[.int .u8 c, .slice A n cap] w (IsB (S ks c) w) := by
  have HN := Lib.hid hn
  clear hn
  go_enter Tryd.func34, Tryd.ntmps34
  go_wp2_with fail
  go_loopg [5] n (fun m s5 wr => ∃ k : Nat, s5 = .int .i64 (k : Int) ∧ m = n - k ∧ k ≤ n ∧ Hid (∀ j, j < k → ks[j]! ≠ c) ∧ wr = w)
  case atStart => exact ⟨0, rfl, rfl, Nat.zero_le _, Lib.hid (fun j hj => by omega), rfl⟩
  case round =>
    obtain ⟨k, rfl, rfl, hk, HNo, rfl⟩ := hrel
    by_cases hlt : k < n
    · have hltz : (k : Int) < (n : Int) := by omega
      obtain ⟨b, o, rfl, hb', hcc⟩ := hr.at_ (by have := HN.out; simp; omega)
      have c0 := row_cell8 hcc k (by rw [HN.out]; exact hlt)
      have HY := Lib.hid (fun h => S_yes (ks := ks) (c := c) (k := k) (by rw [HN.out]; exact hlt) h)
      have HZ : Hid (¬ ks[k]! = c → ∀ j, j < k + 1 → ks[j]! ≠ c) := Lib.hid (fun h j hj => by
        by_cases e : j = k
        · rw [e]; exact h
        · exact HNo.out j (by omega))
      generalize ks[k]! = y at c0 HY HZ
      clear hcc
      by_cases hy : y = c
      · have HT := Lib.hid (HY.out hy)
        have hyb : (y == c) = true := by simpa using hy
        clear hy
        go_wp2_with fail
        go_ret
        exact ⟨by rw [HT.out]; rfl, Below.refl _ _⟩
      · have HT := Lib.hid (HZ.out hy)
        have hyb : (y == c) = false := by simpa using hy
        clear hy HZ HY
        go_wp2_with fail
        go_roundg (n - (k + 1))
        case measure => omega
        case rel => exact ⟨k + 1, by go_num, rfl, by omega, HT, rfl⟩
    · obtain rfl : k = n := by omega
      have hltz : ¬ ((k : Nat) : Int) < (k : Int) := by omega
      have HT : Hid (S ks c = false) := Lib.hid (S_no (by rw [HN.out]; exact HNo.out))
      go_wp2_with fail
      go_ret
      exact ⟨by rw [HT.out]; rfl, Below.refl _ _⟩
def sb (ks : List Int) (r : Int) : Bool := S ks (bc r)
theorem upR8 {w w' : World} {A : Option Addr} {xs : List Value} (h : Row w w.heap.size A xs) (hb : Below w.heap.size w w') : Row w' w'.heap.size A xs := (h.below hb).mono hb.size
set_option maxRecDepth 100000 in
set_option maxHeartbeats 1000000 in
theorem some_any (l ks : List Int) (A : Option Addr) (n cap : Nat) (A2 : Option Addr) (n2 cap2 : Nat) (w : World) (hn : l.length = n) (hn1 : n ≤ 1000000) (hC : C32 l) (hr : Row w w.heap.size A (cl .i32 l)) (hn2 : ks.length = n2) (hn3 : n2 ≤ 1000) (hr2 : Row w w.heap.size A2 (cl .u8 ks)) : Calls Tryd.prog 18 #[.slice A n cap, .slice A2 n2 cap2] w (IsB (l.any (sb ks)) w) := by
  have HN := Lib.hid hn
  have HC := Lib.hid hC
  have HAM := Lib.hid (fun c W (h : Below w.heap.size w W) => among_any c ks A2 n2 cap2 W hn2 hn3 (upR8 hr2 h))
  clear hn hC hn2 hn3 hr2
  go_enter Tryd.func18, Tryd.ntmps18
  go_wp2_with fail
  go_loopg [5] n (fun m s5 wr => ∃ k : Nat, s5 = .int .i64 (k : Int) ∧ m = n - k ∧ k ≤ n ∧ Hid (∀ j, j < k → sb ks l[j]! = false) ∧ Below w.heap.size w wr)
  case atStart => exact ⟨0, rfl, rfl, Nat.zero_le _, Lib.hid (fun j hj => by omega), Below.refl _ _⟩
  case round =>
    obtain ⟨k, rfl, rfl, hk, HNo, hB⟩ := hrel
    by_cases hlt : k < n
    · have hltz : (k : Int) < (n : Int) := by omega
      obtain ⟨b, o, rfl, hb', hcc⟩ := (hr.below hB).at_ (by have := HN.out; simp; omega)
      have c0 := row_cell hcc k (by rw [HN.out]; exact hlt)
      have hc := HC.out _ (mems (l := l) (i := k) (by rw [HN.out]; exact hlt))
      have HM := Lib.hid (mems (l := l) (i := k) (by rw [HN.out]; exact hlt))
      obtain ⟨y, hy⟩ : ∃ y, l[k]! = y := ⟨_, rfl⟩
      have HY := Lib.hid hy
      rw [hy] at c0 hc HM
      have HK := Lib.hid (fun w => RefClass_any y hc.1 hc.2 w)
      have HB := Lib.hid (HAM.out (bc y))
      obtain ⟨q, hq⟩ : ∃ q, sb ks y = q := ⟨_, rfl⟩
      rw [show S ks (bc y) = q from hq] at HB
      have HV := Lib.hid hq
      generalize bc y = z at HK HB
      clear hcc hy hq hc
      cases q with
      | true =>
        have HQ : Hid (l.any (sb ks) = true) := Lib.hid (List.any_eq_true.2 ⟨y, HM.out, HV.out⟩)
        go_wp2_with (first
          | (go_at_call 22; refine (HK.out _).mono ?_; rintro e w1 ⟨rfl, hB1⟩; have hC1 := upB hB hB1)
          | (go_at_call 34; refine (HB.out _ hC1).mono ?_; rintro e w2 ⟨rfl, hB2⟩; have hC2 := upB hC1 hB2)
          | fail)
        go_ret
        exact ⟨by rw [HQ.out]; rfl, hC2⟩
      | false =>
        go_wp2_with (first
          | (go_at_call 22; refine (HK.out _).mono ?_; rintro e w1 ⟨rfl, hB1⟩; have hC1 := upB hB hB1)
          | (go_at_call 34; refine (HB.out _ hC1).mono ?_; rintro e w2 ⟨rfl, hB2⟩; have hC2 := upB hC1 hB2)
          | fail)
        go_roundg (n - (k + 1))
        case measure => omega
        case rel =>
          refine ⟨k + 1, by go_num, rfl, by omega, Lib.hid (fun j hj => ?_), hC2⟩
          by_cases hjk : j = k
          · subst hjk; rw [HY.out]; exact HV.out
          · exact HNo.out j (by omega)
    · obtain rfl : k = n := by omega
      have hltz : ¬ ((k : Nat) : Int) < (k : Int) := by omega
      have HQ : Hid (l.any (sb ks) = false) := Lib.hid (by
        rw [List.any_eq_false]
        intro r h
        obtain ⟨j, hj, e⟩ := List.getElem_of_mem h
        have := HNo.out j (by have := HN.out; omega)
        rw [getElem!_pos l j hj, e] at this
        rw [this]
        simp)
      go_wp2_with fail
      go_ret
      exact ⟨by rw [HQ.out]; rfl, hB⟩
set_option maxRecDepth 100000 in
set_option maxHeartbeats 1000000 in
theorem allR_any (l ks : List Int) (A : Option Addr) (n cap : Nat) (A2 : Option Addr) (n2 cap2 : Nat) (w : World) (hn : l.length = n) (hn1 : n ≤ 1000000) (hC : C32 l) (hr : Row w w.heap.size A (cl .i32 l)) (hn2 : ks.length = n2) (hn3 : n2 ≤ 1000) (hr2 : Row w w.heap.size A2 (cl .u8 ks)) : Calls Tryd.prog 23 #[.slice A n cap, .slice A2 n2 cap2] w (IsB (l.all (sb ks)) w) := by
  have HN := Lib.hid hn
  have HC := Lib.hid hC
  have HAM := Lib.hid (fun c W (h : Below w.heap.size w W) => among_any c ks A2 n2 cap2 W hn2 hn3 (upR8 hr2 h))
  clear hn hC hn2 hn3 hr2
  go_enter Tryd.func23, Tryd.ntmps23
  go_wp2_with fail
  go_loopg [5] n (fun m s5 wr => ∃ k : Nat, s5 = .int .i64 (k : Int) ∧ m = n - k ∧ k ≤ n ∧ Hid (∀ j, j < k → sb ks l[j]! = true) ∧ Below w.heap.size w wr)
  case atStart => exact ⟨0, rfl, rfl, Nat.zero_le _, Lib.hid (fun j hj => by omega), Below.refl _ _⟩
  case round =>
    obtain ⟨k, rfl, rfl, hk, HNo, hB⟩ := hrel
    by_cases hlt : k < n
    · have hltz : (k : Int) < (n : Int) := by omega
      obtain ⟨b, o, rfl, hb', hcc⟩ := (hr.below hB).at_ (by have := HN.out; simp; omega)
      have c0 := row_cell hcc k (by rw [HN.out]; exact hlt)
      have hc := HC.out _ (mems (l := l) (i := k) (by rw [HN.out]; exact hlt))
      have HM := Lib.hid (mems (l := l) (i := k) (by rw [HN.out]; exact hlt))
      obtain ⟨y, hy⟩ : ∃ y, l[k]! = y := ⟨_, rfl⟩
      have HY := Lib.hid hy
      rw [hy] at c0 hc HM
      have HK := Lib.hid (fun w => RefClass_any y hc.1 hc.2 w)
      have HB := Lib.hid (HAM.out (bc y))
      obtain ⟨q, hq⟩ : ∃ q, sb ks y = q := ⟨_, rfl⟩
      rw [show S ks (bc y) = q from hq] at HB
      have HV := Lib.hid hq
      generalize bc y = z at HK HB
      clear hcc hy hq hc
      cases q with
      | false =>
        have HQ : Hid (l.all (sb ks) = false) := Lib.hid (List.all_eq_false.2 ⟨y, HM.out, by rw [HV.out]; decide⟩)
        go_wp2_with (first
          | (go_at_call 22; refine (HK.out _).mono ?_; rintro e w1 ⟨rfl, hB1⟩; have hC1 := upB hB hB1)
          | (go_at_call 34; refine (HB.out _ hC1).mono ?_; rintro e w2 ⟨rfl, hB2⟩; have hC2 := upB hC1 hB2)
          | fail)
        go_ret
        exact ⟨by rw [HQ.out]; rfl, hC2⟩
      | true =>
        go_wp2_with (first
          | (go_at_call 22; refine (HK.out _).mono ?_; rintro e w1 ⟨rfl, hB1⟩; have hC1 := upB hB hB1)
          | (go_at_call 34; refine (HB.out _ hC1).mono ?_; rintro e w2 ⟨rfl, hB2⟩; have hC2 := upB hC1 hB2)
          | fail)
        go_roundg (n - (k + 1))
        case measure => omega
        case rel =>
          refine ⟨k + 1, by go_num, rfl, by omega, Lib.hid (fun j hj => ?_), hC2⟩
          by_cases hjk : j = k
          · subst hjk; rw [HY.out]; exact HV.out
          · exact HNo.out j (by omega)
    · obtain rfl : k = n := by omega
      have hltz : ¬ ((k : Nat) : Int) < (k : Int) := by omega
      have HQ : Hid (l.all (sb ks) = true) := Lib.hid (by
        rw [List.all_eq_true]
        intro r h
        obtain ⟨j, hj, e⟩ := List.getElem_of_mem h
        have := HNo.out j (by have := HN.out; omega)
        rw [getElem!_pos l j hj, e] at this
        exact this)
      go_wp2_with fail
      go_ret
      exact ⟨by rw [HQ.out]; rfl, hB⟩
set_option maxRecDepth 100000 in
set_option maxHeartbeats 2000000 in
theorem endsR_any (l ks : List Int) (h8 : S ks 8 = false) (A : Option Addr) (n cap : Nat) (A2 : Option Addr) (n2 cap2 : Nat) (w : World) (hn : l.length = n) (hn1 : n ≤ 1000000) (hC : C32 l) (hr : Row w w.heap.size A (cl .i32 l)) (hn2 : ks.length = n2) (hn3 : n2 ≤ 1000) (hr2 : Row w w.heap.size A2 (cl .u8 ks)) : Calls Tryd.prog 24 #[.slice A n cap, .slice A2 n2 cap2] w (IsB (S ks (lastC (l.map bc))) w) := by
  have HN := Lib.hid hn
  have HC := Lib.hid hC
  have H8 := Lib.hid h8
  have HAM := Lib.hid (fun c W (h : Below w.heap.size w W) => among_any c ks A2 n2 cap2 W hn2 hn3 (upR8 hr2 h))
  have HE0 : Hid (lb (back l n) = lastC (l.map bc)) := Lib.hid (by rw [lb_back l n (by omega), List.take_of_length_le (by omega)])
  generalize lastC (l.map bc) = z0 at HE0 ⊢
  clear hn hC hn2 hn3 hr2 h8
  go_enter Tryd.func24, Tryd.ntmps24
  go_wp2_with fail
  go_loopg [5] n (fun m s5 wr => ∃ k : Nat, s5 = .int .i64 ((k : Int) - 1) ∧ m = k ∧ k ≤ n ∧ Hid (lb (back l k) = z0) ∧ Below w.heap.size w wr)
  case atStart => exact ⟨n, rfl, rfl, Nat.le_refl _, HE0, Below.refl _ _⟩
  case round =>
    clear HE0
    obtain ⟨k, rfl, hm, hk, HE, hB⟩ := hrel
    cases k with
    | succ k =>
      have e1 : ((k + 1 : Nat) : Int) - 1 = (k : Int) := by omega
      rw [e1]
      clear e1
      have h0z : (0 : Int) ≤ (k : Int) := by omega
      have hltz : (k : Int) < (n : Int) := by omega
      obtain ⟨b', o, rfl, hb, hcc⟩ := (hr.below hB).at_ (by have := HN.out; simp; omega)
      have c0 := row_cell hcc k (by rw [HN.out]; omega)
      have hc := HC.out _ (mems (l := l) (i := k) (by rw [HN.out]; omega))
      have HL : Hid ((if bc l[k]! = 8 then lb (back l k) else bc l[k]!) = z0) := HE
      obtain ⟨y, hy⟩ : ∃ y, l[k]! = y := ⟨_, rfl⟩
      rw [hy] at c0 hc HL
      have HK := Lib.hid (fun w => RefClass_any y hc.1 hc.2 w)
      generalize bc y = z at HK HL
      clear hcc hy hc
      by_cases h2 : z = 8
      · subst h2
        have HL2 : Hid (lb (back l k) = z0) := Lib.hid (by rw [← HL.out, if_pos rfl])
        clear HL
        go_wp2_with (first
          | (go_at_call 22; refine (HK.out _).mono ?_; rintro e w1 ⟨rfl, hB1⟩; have hC1 := upB hB hB1)
          | fail)
        go_roundg k
        case measure => omega
        case rel => exact ⟨k, by go_num, rfl, by omega, HL2, hC1⟩
      · have h2b : (z == 8) = false := by simpa using h2
        obtain rfl : z = z0 := by have := HL.out; rwa [if_neg h2] at this
        have HB := Lib.hid (HAM.out z)
        generalize S ks z = q at HB ⊢
        clear HL HE
        go_upto_region 5 with (first | (go_at_call 22; refine (HK.out _).mono ?_; rintro e w1 ⟨rfl, hB1⟩; have hC1 := upB hB hB1) | fail)
        have c1 : w1.cell? ⟨b', o + k, none⟩ = some (.int .i32 y) := (hB1.cell (p := ⟨b', o + k, none⟩) (by have := hB.size; simp only; omega)).trans c0
        clear c0
        go_wp2_with (first
          | (go_at_call 34; refine (HB.out _ hC2).mono ?_; rintro e w3 ⟨rfl, hB3⟩; have hC3 := upB hC2 hB3)
          | (go_at_call 22; refine (HK.out _).mono ?_; rintro e w2 ⟨rfl, hB2⟩; have hC2 := upB hC1 hB2)
          | fail)
        go_ret
        exact ⟨rfl, hC3⟩
    | zero =>
      have HT : Hid (S ks z0 = false) := Lib.hid (by rw [← HE.out]; exact H8.out)
      have e1 : ((0 : Nat) : Int) - 1 = -1 := by omega
      rw [e1]
      clear e1
      go_wp2_with fail
      go_ret
      exact ⟨by rw [HT.out]; rfl, hB⟩
end Go.Proofs.YtnmijmhgmcapcaaDoor.Rul
