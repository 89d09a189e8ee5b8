/-
  path: letters, drives; rows of texts compared; slices.Clone; shorter.
-/
import Derived.Test.YtjkfppgekepbeaaDoorPthD
import Derived.Laws.Cover4
namespace Go.Proofs.YtjkfppgekepbeaaDoor.Pth
set_option maxRecDepth 100000
open Go.RowKit Utf Ut Hst

/-- texts as cells -/
abbrev sx (xs : List ByteArray) : List Value := xs.map Value.string
theorem sx_get (l : List ByteArray) (i : Nat) (h : i < l.length) : (sx l)[i]? = some (.string l[i]) := by simp [h]
theorem str_ne {x y : ByteArray} (h : x ≠ y) : (x.toList == y.toList) = false ∧ (x.toList != y.toList) = true := by
  have : x.toList ≠ y.toList := fun e => h (by
    rw [ByteArray.toList_eq, ByteArray.toList_eq] at e
    exact ByteArray.ext (Array.toList_inj.1 e))
  exact ⟨beq_eq_false_iff_ne.2 this, bne_iff_ne.2 this⟩
theorem str_eqs (x : ByteArray) : (x.toList == x.toList) = true ∧ (x.toList != x.toList) = false := ⟨beq_iff_eq.2 rfl, by simp⟩
theorem sx_all {a b : List ByteArray} {n : Nat} (ha : a.length = n) (hb : b.length = n) (h : ∀ j, j < n → a[j]? = b[j]?) : a = b := by
  apply List.ext_getElem?
  intro j
  by_cases hj : j < n
  · exact h j hj
  · rw [List.getElem?_eq_none (by omega), List.getElem?_eq_none (by omega)]
set_option maxHeartbeats 1000000 in
theorem Texts_any (a b : List ByteArray) (A B : Option Addr) (n m c d : Nat) (w : World) (hn : a.length = n) (hm : b.length = m) (hn1 : n ≤ 1000000) (hm1 : m ≤ 1000000) (hra : Row w w.heap.size A (sx a)) (hrb : Row w w.heap.size B (sx b)) :
    Calls Tryd.prog 18 #[.slice A n c, .slice B m d] w (Says (decide (a = b)) w) := by
  by_cases hnm : n = m
  · have HN := Lib.hid hn
    subst hnm
    have HM := Lib.hid hm
    clear hn hm
    go_enter Tryd.func18, Tryd.ntmps18
    go_wp2_with fail
    go_loopg [13] n (fun g i wr => ∃ k : Nat, k ≤ n ∧ n - k = g ∧ i = .int .i64 k ∧ Hid (∀ j, j < k → a[j]? = b[j]?) ∧ Hid (Below w.heap.size w wr))
    case atStart => exact ⟨0, by omega, rfl, rfl, Lib.hid (fun j hj => by omega), Lib.hid (Below.refl _ _)⟩
    case round =>
      obtain ⟨k, hk, rfl, rfl, HA, HB⟩ := hrel
      by_cases hlt : k < n
      · have hltz : (k : Int) < (n : Int) := by omega
        have hka : k < a.length := by rw [HN.out]; exact hlt
        have hkb : k < b.length := by rw [HM.out]; exact hlt
        obtain ⟨b1, o1, rfl, hb1, hc1⟩ := (hra.below HB.out).at_ (by simp; omega)
        obtain ⟨b2, o2, rfl, hb2, hc2⟩ := (hrb.below HB.out).at_ (by simp; omega)
        have g1 := hc1 k (by simp; omega)
        have g2 := hc2 k (by simp; omega)
        rw [sx_get _ _ hka] at g1
        rw [sx_get _ _ hkb] at g2
        obtain ⟨x, hx⟩ : ∃ x, a[k] = x := ⟨_, rfl⟩
        obtain ⟨y, hy⟩ : ∃ y, b[k] = y := ⟨_, rfl⟩
        rw [hx] at g1
        rw [hy] at g2
        have HX := Lib.hid hx
        have HY := Lib.hid hy
        clear hx hy hc1 hc2
        by_cases hxy : x = y
        · subst hxy
          have ⟨e1, e2⟩ := str_eqs x
          go_wp2_with fail
          go_quiet (fail)
          have hB7 := HB.out.trans ((Hst.below_drewN wr nq).mono HB.out.size)
          generalize wr.drewN nq = w7 at hB7 ⊢
          go_wp2_with fail
          go_roundg (n - (k + 1))
          case measure => omega
          case rel =>
            refine ⟨k + 1, by omega, rfl, by go_num, Lib.hid (fun j hj => ?_), Lib.hid hB7⟩
            by_cases hjk : j < k
            · exact HA.out j hjk
            · obtain rfl : j = k := by omega
              rw [List.getElem?_eq_getElem hka, List.getElem?_eq_getElem hkb, HX.out, HY.out]
        · have ⟨e1, e2⟩ := str_ne hxy
          have HE : Hid (decide (a = b) = false) := Lib.hid (decide_eq_false fun e => hxy (by rw [← HX.out, ← HY.out]; simp [e]))
          rw [HE.out]
          go_wp2_with fail
          go_quiet (fail)
          have hB7 := HB.out.trans ((Hst.below_drewN wr nq).mono HB.out.size)
          generalize wr.drewN nq = w7 at hB7 ⊢
          go_wp2_with fail
          go_ret
          exact ⟨rfl, hB7⟩
      · obtain rfl : k = n := by omega
        have hltz : ¬ ((k : Nat) : Int) < (k : Int) := by omega
        have HE : Hid (decide (a = b) = true) := Lib.hid (decide_eq_true (sx_all HN.out HM.out HA.out))
        go_wp2_with fail
        go_ret
        exact ⟨ret_bool HE.out.symm, HB.out⟩
  · have hne : ((n : Int) != (m : Int)) = true := by simp; omega
    have HE : Hid (decide (a = b) = false) := Lib.hid (decide_eq_false fun e => hnm (by rw [← hn, ← hm, e]))
    rw [HE.out]
    clear hra hrb hn hm
    go_enter Tryd.func18, Tryd.ntmps18
    go_wp2_with fail
    go_ret
    exact ⟨rfl, Below.refl _ _⟩
theorem letter_any (r : Int) (w : World) : Calls Tryd.prog 30 #[.int .i32 r] w (fun e w' => e = .returned (.bool (ltr r)) ∧ w = w') := by
  have key : ∀ q, ltr r = q → Calls Tryd.prog 30 #[.int .i32 r] w (fun e w' => e = .returned (.bool q) ∧ w = w') := by
    intro q hq
    unfold ltr at hq
    by_cases h1 : 65 ≤ r
    · by_cases h2 : r ≤ 90
      · rw [decide_eq_true (show 65 ≤ r ∧ r ≤ 90 from ⟨h1, h2⟩)] at hq
        subst hq
        go_enter Tryd.func30, Tryd.ntmps30
        go_wp2_with fail
        go_ret
        exact ⟨rfl, rfl⟩
      · rw [decide_eq_false (show ¬ (65 ≤ r ∧ r ≤ 90) from fun h => h2 h.2)] at hq
        by_cases h3 : 97 ≤ r
        · by_cases h4 : r ≤ 122
          · rw [decide_eq_true (show 97 ≤ r ∧ r ≤ 122 from ⟨h3, h4⟩)] at hq
            subst hq
            go_enter Tryd.func30, Tryd.ntmps30
            go_wp2_with fail
            go_ret
            exact ⟨rfl, rfl⟩
          · rw [decide_eq_false (show ¬ (97 ≤ r ∧ r ≤ 122) from fun h => h4 h.2)] at hq
            subst hq
            go_enter Tryd.func30, Tryd.ntmps30
            go_wp2_with fail
            go_ret
            exact ⟨rfl, rfl⟩
        · rw [decide_eq_false (show ¬ (97 ≤ r ∧ r ≤ 122) from fun h => h3 h.1)] at hq
          subst hq
          go_enter Tryd.func30, Tryd.ntmps30
          go_wp2_with fail
          go_ret
          exact ⟨rfl, rfl⟩
    · have h3 : ¬ 97 ≤ r := by omega
      rw [decide_eq_false (show ¬ (65 ≤ r ∧ r ≤ 90) from fun h => h1 h.1), decide_eq_false (show ¬ (97 ≤ r ∧ r ≤ 122) from fun h => h3 h.1)] at hq
      subst hq
      go_enter Tryd.func30, Tryd.ntmps30
      go_wp2_with fail
      go_ret
      exact ⟨rfl, rfl⟩
  exact key _ rfl
theorem drv_len {l : List Int} (h : l.length ≠ 2) : drv l = false := by
  match l, h with
  | [], _ => rfl
  | [_], _ => rfl
  | [_, _], h => exact absurd rfl h
  | _ :: _ :: _ :: _, _ => rfl
set_option maxHeartbeats 1000000 in
theorem Drive_any (l : List Int) (A : Option Addr) (n c : Nat) (w : World) (hn : l.length = n) (hr : Row w w.heap.size A (cl .i32 l)) : Calls Tryd.prog 14 #[.slice A n c] w (fun e w' => e = .returned (.bool (drv l)) ∧ w = w') := by
  by_cases h2 : n = 2
  · subst h2
    match l, hn with
    | [a, b], _ =>
      obtain ⟨g, o, rfl, hb, hc⟩ := hr.at_ (by simp)
      have c0 : w.cell? ⟨g, o, none⟩ = some (.int .i32 a) := hc 0 (by simp)
      have c1 : w.cell? ⟨g, o + 1, none⟩ = some (.int .i32 b) := hc 1 (by simp)
      have HL := Lib.hid (fun W => letter_any a W)
      have HD : Hid (drv [a, b] = (ltr a && (b == 58 || b == 124))) := Lib.hid rfl
      rw [HD.out]
      obtain ⟨q, hq⟩ : ∃ q, ltr a = q := ⟨_, rfl⟩
      rw [hq] at HL ⊢
      clear hq hc hr hn HD
      cases q with
      | false =>
        rw [Bool.false_and]
        go_enter Tryd.func14, Tryd.ntmps14
        go_wp2_with (first | (go_at_call 30; refine (HL.out _).mono ?_; rintro e w1 ⟨rfl, rfl⟩) | fail)
        go_ret
        exact ⟨rfl, rfl⟩
      | true =>
        rw [Bool.true_and]
        by_cases hb1 : b = 58
        · subst hb1
          rw [show ((58 : Int) == 58 || (58 : Int) == 124) = true from rfl]
          go_enter Tryd.func14, Tryd.ntmps14
          go_wp2_with (first | (go_at_call 30; refine (HL.out _).mono ?_; rintro e w1 ⟨rfl, rfl⟩) | fail)
          go_ret
          exact ⟨rfl, rfl⟩
        · have e1 : (b == 58) = false := beq_eq_false_iff_ne.2 hb1
          rw [e1, Bool.false_or]
          obtain ⟨q, hq⟩ : ∃ q, (b == 124) = q := ⟨_, rfl⟩
          rw [hq]
          go_enter Tryd.func14, Tryd.ntmps14
          go_wp2_with (first | (go_at_call 30; refine (HL.out _).mono ?_; rintro e w1 ⟨rfl, rfl⟩) | fail)
          go_ret
          exact ⟨rfl, rfl⟩
  · have HE : Hid (drv l = false) := Lib.hid (drv_len (by omega))
    have hz : ((n : Int) == 2) = false := by rw [beq_eq_false_iff_ne]; omega
    rw [HE.out]
    clear HE hr hn h2
    go_enter Tryd.func14, Tryd.ntmps14
    go_wp2_with fail
    go_ret
    exact ⟨rfl, rfl⟩
theorem nmL_len {l : List UInt8} (h : l.length ≠ 2) : nmL l = false := by
  match l, h with
  | [], _ => rfl
  | [_], _ => rfl
  | [_, _], h => exact absurd rfl h
  | _ :: _ :: _ :: _, _ => rfl
theorem two_bytes (s : ByteArray) (h : s.size = 2) : dl s = [s[0]'(by omega), s[1]'(by omega)] := by
  obtain ⟨⟨l⟩⟩ := s
  match l, h with
  | [a, b], _ => rfl
set_option maxHeartbeats 1000000 in
theorem normalized_any (s : ByteArray) (w : World) : Calls Tryd.prog 52 #[.string s] w (fun e w' => e = .returned (.bool (nmd s)) ∧ w = w') := by
  by_cases h2 : s.size = 2
  · have h0 : 0 < s.size := by omega
    have h1 : 1 < s.size := by omega
    have HD : Hid (nmd s = (s[1]'h1 == 58 && ltr ((s[0]'h0).toNat : Int))) := Lib.hid (by
      unfold nmd
      rw [two_bytes s h2]
      rfl)
    have hz : ((s.size : Int) == 2) = true := by rw [h2]; rfl
    rw [HD.out]
    obtain ⟨a, ha⟩ : ∃ a, s[0]'h0 = a := ⟨_, rfl⟩
    obtain ⟨b, hb⟩ : ∃ b, s[1]'h1 = b := ⟨_, rfl⟩
    rw [ha, hb]
    have ha8 : a.toNat < 256 := a.toNat_lt
    have HL := Lib.hid (fun W => letter_any (a.toNat : Int) W)
    obtain ⟨q, hq⟩ : ∃ q, ltr (a.toNat : Int) = q := ⟨_, rfl⟩
    rw [hq] at HL ⊢
    have hw : IntKind.i32.wrap (a.toNat : Int) = (a.toNat : Int) := by simp [IntKind.wrap, IntKind.signed, IntKind.bits]; omega
    clear hq HD h2
    by_cases e : b = 58
    · have eb : (b == 58) = true := by rw [e]; rfl
      have ez : (((b.toNat : Nat) : Int) == 58) = true := by rw [e]; rfl
      rw [eb, Bool.true_and]
      clear e eb
      go_enter Tryd.func52, Tryd.ntmps52
      go_wp2_with (first | (go_at_call 30; refine (HL.out _).mono ?_; rintro e w1 ⟨rfl, rfl⟩) | fail)
      go_ret
      exact ⟨rfl, rfl⟩
    · have eb : (b == 58) = false := beq_eq_false_iff_ne.2 e
      have ez : (((b.toNat : Nat) : Int) == 58) = false := by
        rw [beq_eq_false_iff_ne]
        intro h
        exact e (UInt8.toNat_inj.1 (by show b.toNat = 58; omega))
      rw [eb, Bool.false_and]
      clear e eb
      go_enter Tryd.func52, Tryd.ntmps52
      go_wp2_with fail
      go_ret
      exact ⟨rfl, rfl⟩
  · have HE : Hid (nmd s = false) := Lib.hid (nmL_len (by
      have : (dl s).length = s.size := by simp [dl]
      omega))
    have hz : ((s.size : Int) == 2) = false := by rw [beq_eq_false_iff_ne]; omega
    rw [HE.out]
    clear HE h2
    go_enter Tryd.func52, Tryd.ntmps52
    go_wp2_with fail
    go_ret
    exact ⟨rfl, rfl⟩
end Go.Proofs.YtjkfppgekepbeaaDoor.Pth
