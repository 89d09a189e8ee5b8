/-
  fasciaref16: dots; Single, Double.
-/
import Derived.Test.YtjkfppgekepbeaaDoorPthQ
namespace Go.Proofs.YtjkfppgekepbeaaDoor.Pth
set_option maxRecDepth 100000
open Go.RowKit Go.Shelf Utf Ut Hst

/-- how many dots bytes are, coded or not -/
def dts : List UInt8 → Option Nat
  | [] => some 0
  | [a] => if a = 46 then some 1 else none
  | [a, b] => if a = 46 then (dts [b]).map (· + 1) else none
  | a :: b :: c :: u => if a = 46 then (dts (b :: c :: u)).map (· + 1) else if a = 37 ∧ b = 50 ∧ (c = 101 ∨ c = 69) then (dts u).map (· + 1) else none
def dtn (l : List UInt8) : Int := match dts l with | some n => n | none => -1
theorem dts_dot (t : List UInt8) : dts (46 :: t) = (dts t).map (· + 1) := by
  match t with
  | [] => simp [dts]
  | [_] => simp only [dts, if_true]
  | _ :: _ :: _ => rw [dts, if_pos rfl]
theorem dts_cod {c : UInt8} (h : c = 101 ∨ c = 69) (t : List UInt8) : dts (37 :: 50 :: c :: t) = (dts t).map (· + 1) := by
  rw [dts, if_neg (by decide), if_pos ⟨rfl, rfl, h⟩]
theorem dts_no {a b c : UInt8} (h : a ≠ 46) (h2 : ¬ (a = 37 ∧ b = 50 ∧ (c = 101 ∨ c = 69))) (t : List UInt8) : dts (a :: b :: c :: t) = none := by
  rw [dts, if_neg h, if_neg h2]
theorem dts_few {a : UInt8} {t : List UInt8} (h : a ≠ 46) (ht : t.length < 2) : dts (a :: t) = none := by
  match t, ht with
  | [], _ => rw [dts, if_neg h]
  | [_], _ => rw [dts, if_neg h]
/-- one dot -/
def DL (d : List UInt8) : Prop := d = [46] ∨ d = [37, 50, 101] ∨ d = [37, 50, 69]
theorem dts_split : ∀ {l : List UInt8} {n : Nat}, dts l = some n → (l = [] ∧ n = 0) ∨ ∃ d t m, DL d ∧ l = d ++ t ∧ dts t = some m ∧ n = m + 1
  | [], n, h => by rw [dts] at h; injection h with h; exact .inl ⟨rfl, h.symm⟩
  | a :: t, n, h => by
    right
    by_cases ha : a = 46
    · subst ha
      rw [dts_dot] at h
      obtain ⟨m, h1, h2⟩ := Option.map_eq_some_iff.1 h
      exact ⟨[46], t, m, .inl rfl, rfl, h1, h2.symm⟩
    · match t with
      | [] => rw [dts_few ha (by simp)] at h; cases h
      | [_] => rw [dts_few ha (by simp)] at h; cases h
      | b :: c :: u =>
        by_cases hc : a = 37 ∧ b = 50 ∧ (c = 101 ∨ c = 69)
        · obtain ⟨rfl, rfl, hc⟩ := hc
          rw [dts_cod hc] at h
          obtain ⟨m, h1, h2⟩ := Option.map_eq_some_iff.1 h
          refine ⟨[37, 50, c], u, m, ?_, rfl, h1, h2.symm⟩
          rcases hc with rfl | rfl
          · exact .inr (.inl rfl)
          · exact .inr (.inr rfl)
        · rw [dts_no ha hc] at h; cases h
theorem low_in : ∀ k : Fin 256, (Lib.lowerB (UInt8.ofNat k.1) = 46 → UInt8.ofNat k.1 = 46) ∧ (Lib.lowerB (UInt8.ofNat k.1) = 37 → UInt8.ofNat k.1 = 37) ∧ (Lib.lowerB (UInt8.ofNat k.1) = 50 → UInt8.ofNat k.1 = 50) ∧ (Lib.lowerB (UInt8.ofNat k.1) = 101 → UInt8.ofNat k.1 = 101 ∨ UInt8.ofNat k.1 = 69) := by decide +kernel
theorem low_of (x : UInt8) : (Lib.lowerB x = 46 → x = 46) ∧ (Lib.lowerB x = 37 → x = 37) ∧ (Lib.lowerB x = 50 → x = 50) ∧ (Lib.lowerB x = 101 → x = 101 ∨ x = 69) := by
  have := low_in ⟨x.toNat, x.toNat_lt⟩
  rw [UInt8.ofNat_toNat] at this
  exact this
theorem len_one {α : Type} {l : List α} (h : l.length = 1) : ∃ a, l = [a] := List.length_eq_one_iff.1 h
theorem len_three {α : Type} : ∀ {l : List α}, l.length = 3 → ∃ a b c, l = [a, b, c]
  | [a, b, c], _ => ⟨a, b, c, rfl⟩
theorem low_DL {l : List UInt8} (h : Lib.toLowerA l = [46] ∨ Lib.toLowerA l = [37, 50, 101]) : DL l := by
  unfold Lib.toLowerA at h
  rcases h with h | h
  · obtain ⟨a, rfl⟩ := len_one (l := l) (by have := congrArg List.length h; simpa using this)
    simp only [List.map_cons, List.map_nil, List.cons.injEq, and_true] at h
    rw [(low_of a).1 h]
    exact .inl rfl
  · obtain ⟨a, b, c, rfl⟩ := len_three (l := l) (by have := congrArg List.length h; simpa using this)
    simp only [List.map_cons, List.map_nil, List.cons.injEq, and_true] at h
    rw [(low_of a).2.1 h.1, (low_of b).2.2.1 h.2.1]
    rcases (low_of c).2.2.2 h.2.2 with e | e
    · rw [e]; exact .inr (.inl rfl)
    · rw [e]; exact .inr (.inr rfl)
theorem low_both {l : List UInt8} (h : dblL l = true) : ∃ d e, DL d ∧ DL e ∧ l = d ++ e := by
  have key : ∃ x y, (x = [46] ∨ x = [37, 50, 101]) ∧ (y = [46] ∨ y = [37, 50, 101]) ∧ Lib.toLowerA l = x ++ y := by
    unfold dblL at h
    simp only [Bool.or_eq_true, decide_eq_true_eq] at h
    rcases h with ((h | h) | h) | h
    · exact ⟨[46], [46], .inl rfl, .inl rfl, h⟩
    · exact ⟨[46], [37, 50, 101], .inl rfl, .inr rfl, h⟩
    · exact ⟨[37, 50, 101], [46], .inr rfl, .inl rfl, h⟩
    · exact ⟨[37, 50, 101], [37, 50, 101], .inr rfl, .inr rfl, h⟩
  obtain ⟨x, y, hx, hy, h⟩ := key
  unfold Lib.toLowerA at h
  obtain ⟨d, e, h1, h2, h3⟩ := List.map_eq_append_iff.1 h
  refine ⟨d, e, low_DL ?_, low_DL ?_, h1⟩
  · rcases hx with rfl | rfl
    · exact .inl h2
    · exact .inr h2
  · rcases hy with rfl | rfl
    · exact .inl h3
    · exact .inr h3
theorem dtn_some {l : List UInt8} {n : Nat} (h : dtn l = (n : Int)) : dts l = some n := by
  unfold dtn at h
  cases hd : dts l with
  | none => rw [hd] at h; dsimp only at h; omega
  | some m => rw [hd] at h; dsimp only at h; congr 1; omega
theorem dtn_one {l : List UInt8} : (asc l && sglL l) = decide (dtn l = 1) := by
  rw [Bool.eq_iff_iff, decide_eq_true_eq]
  constructor
  · intro h
    rw [Bool.and_eq_true] at h
    have h2 := h.2
    unfold sglL at h2
    rw [Bool.or_eq_true, decide_eq_true_eq, decide_eq_true_eq] at h2
    rcases low_DL h2 with rfl | rfl | rfl <;> rfl
  · intro h
    rcases dts_split (dtn_some (n := 1) h) with ⟨_, h⟩ | ⟨d, t, m, hd, rfl, ht, hm⟩
    · cases h
    · obtain rfl : m = 0 := by omega
      rcases dts_split ht with ⟨rfl, _⟩ | ⟨_, _, _, _, _, _, h⟩
      · rcases hd with rfl | rfl | rfl <;> decide +kernel
      · omega
theorem dtn_two {l : List UInt8} : (asc l && dblL l) = decide (dtn l = 2) := by
  rw [Bool.eq_iff_iff, decide_eq_true_eq]
  constructor
  · intro h
    rw [Bool.and_eq_true] at h
    obtain ⟨d, e, hd, he, rfl⟩ := low_both h.2
    rcases hd with rfl | rfl | rfl <;> rcases he with rfl | rfl | rfl <;> rfl
  · intro h
    rcases dts_split (dtn_some (n := 2) h) with ⟨_, h⟩ | ⟨d, t, m, hd, rfl, ht, hm⟩
    · cases h
    · obtain rfl : m = 1 := by omega
      rcases dts_split ht with ⟨_, h⟩ | ⟨e, u, m, he, rfl, hu, hm⟩
      · cases h
      · obtain rfl : m = 0 := by omega
        rcases dts_split hu with ⟨rfl, _⟩ | ⟨_, _, _, _, _, _, h⟩
        · rcases hd with rfl | rfl | rfl <;> rcases he with rfl | rfl | rfl <;> decide +kernel
        · omega
theorem get_dl' {s : ByteArray} {k : Nat} (h : k < s.size) : ∃ hk : k < (dl s).length, (dl s)[k]'hk = s[k]'h := by
  have : k < (dl s).length := by simp [dl]; exact h
  refine ⟨this, ?_⟩
  simp [dl]
  rfl
theorem byteZ {b : UInt8} {k : Nat} (hk : k < 256) : ((b.toNat : Int) == (k : Int)) = decide (b = UInt8.ofNat k) := by
  rw [Bool.eq_iff_iff, beq_iff_eq, decide_eq_true_eq]
  constructor
  · intro h
    apply UInt8.toNat_inj.1
    rw [UInt8.toNat_ofNat']
    omega
  · intro h
    rw [h, UInt8.toNat_ofNat']
    omega
theorem drop1 {l : List UInt8} {k : Nat} (h : k < l.length) : l.drop k = l[k] :: l.drop (k + 1) := List.drop_eq_getElem_cons h
set_option maxHeartbeats 4000000 in
theorem dots_any (s : ByteArray) (hs : s.size ≤ 1000000) (w : World) : Calls Tryd.prog 29 #[.string s] w (fun e w' => e = .returned (.int .i64 (dtn (dl s))) ∧ w = w') := by
  have HL : Hid ((dl s).length = s.size) := Lib.hid (by simp [dl])
  obtain ⟨D, hD⟩ : ∃ D, dtn (dl s) = D := ⟨_, rfl⟩
  have HD := Lib.hid hD
  rw [hD]
  clear hD
  go_enter Tryd.func29, Tryd.ntmps29
  go_wp2_with fail
  go_loopg [3, 4] s.size (fun m s3 s4 wr => ∃ k q : Nat, s4 = .int .i64 (k : Int) ∧ s3 = .int .i64 (q : Int) ∧ s.size - k = m ∧ k ≤ s.size ∧ q ≤ k ∧ wr = w ∧ Hid (dts (dl s) = (dts ((dl s).drop k)).map (· + q)))
  case atStart => exact ⟨0, 0, rfl, rfl, rfl, Nat.zero_le _, Nat.le_refl _, rfl, Lib.hid (by simp)⟩
  case round =>
    obtain ⟨k, q, rfl, rfl, rfl, hk, hq, rfl, HS⟩ := hrel
    by_cases hlt : k < s.size
    · obtain ⟨hkl, hkd⟩ := get_dl' hlt
      have HDR := Lib.hid (drop1 hkl)
      rw [hkd] at HDR
      obtain ⟨a, ha⟩ : ∃ a, s[k]'hlt = a := ⟨_, rfl⟩
      rw [ha] at HDR
      clear hkd
      have e46 := byteZ (b := a) (k := 46) (by decide)
      have e37 := byteZ (b := a) (k := 37) (by decide)
      by_cases h46 : a = 46
      · have z46 : ((a.toNat : Int) == 46) = true := by rw [h46]; rfl
        have HS2 : Hid (dts (dl s) = (dts ((dl s).drop (k + 1))).map (· + (q + 1))) := Lib.hid (by
          rw [HS.out, HDR.out, h46, dts_dot, Option.map_map]
          congr 1
          funext x
          simp only [Function.comp]
          omega)
        clear h46 e46 e37 HDR HS
        go_wp2_with fail
        go_roundg (s.size - (k + 1))
        case measure => omega
        case rel => exact ⟨k + 1, q + 1, by go_num, by go_num, rfl, by omega, by omega, rfl, HS2⟩
      · have z46 : ((a.toNat : Int) == 46) = false := by rw [show ((46 : Int)) = ((46 : Nat) : Int) from rfl, e46]; exact decide_eq_false h46
        clear e46
        have none_ : dts ((dl s).drop k) = none → D = -1 := fun h => by
          rw [← HD.out]
          unfold dtn
          rw [HS.out, h]
          rfl
        have HNO := Lib.hid none_
        clear none_
        by_cases h2 : k + 2 < s.size
        · have h1 : k + 1 < s.size := by omega
          have hz2 : (k : Int) + 2 < (s.size : Int) := by omega
          obtain ⟨hbl, hbd⟩ := get_dl' h1
          obtain ⟨hcl, hcd⟩ := get_dl' h2
          have HDB := Lib.hid (drop1 hbl)
          have HDC := Lib.hid (drop1 hcl)
          rw [hbd] at HDB
          rw [hcd] at HDC
          obtain ⟨b, hb⟩ : ∃ b, s[k + 1]'h1 = b := ⟨_, rfl⟩
          obtain ⟨c, hc⟩ : ∃ c, s[k + 2]'h2 = c := ⟨_, rfl⟩
          rw [hb] at HDB
          rw [hc] at HDC
          have HALL : Hid ((dl s).drop k = a :: b :: c :: (dl s).drop (k + 3)) := Lib.hid (by rw [HDR.out, HDB.out, HDC.out])
          have f50 := byteZ (b := b) (k := 50) (by decide)
          have f101 := byteZ (b := c) (k := 101) (by decide)
          have f69 := byteZ (b := c) (k := 69) (by decide)
          have H46 := Lib.hid h46
          clear hbd hcd HDB HDC HDR h46
          have stop : ¬ (a = 37 ∧ b = 50 ∧ (c = 101 ∨ c = 69)) → D = -1 := fun h => HNO.out (by rw [HALL.out, dts_no H46.out h])
          have HST := Lib.hid stop
          clear stop HNO
          by_cases h37 : a = 37
          · have z37 : ((a.toNat : Int) == 37) = true := by rw [h37]; rfl
            by_cases h50 : b = 50
            · have z50 : ((b.toNat : Int) == 50) = true := by rw [h50]; rfl
              by_cases hc2 : c = 101 ∨ c = 69
              · have HS2 : Hid (dts (dl s) = (dts ((dl s).drop (k + 3))).map (· + (q + 1))) := Lib.hid (by
                  rw [HS.out, HALL.out, h37, h50, dts_cod hc2, Option.map_map]
                  congr 1
                  funext x
                  simp only [Function.comp]
                  omega)
                by_cases h101 : c = 101
                · have z101 : ((c.toNat : Int) == 101) = true := by rw [h101]; rfl
                  clear h37 h50 hc2 h101 HALL HS HST e37 f50 f101 f69
                  go_wp2_with fail
                  go_roundg (s.size - (k + 3))
                  case measure => omega
                  case rel => exact ⟨k + 3, q + 1, by go_num, by go_num, rfl, by omega, by omega, rfl, HS2⟩
                · have z101 : ((c.toNat : Int) == 101) = false := by rw [show ((101 : Int)) = ((101 : Nat) : Int) from rfl, f101]; exact decide_eq_false h101
                  have z69 : ((c.toNat : Int) == 69) = true := by rw [hc2.resolve_left h101]; rfl
                  clear h37 h50 hc2 h101 HALL HS HST e37 f50 f101 f69
                  go_wp2_with fail
                  go_roundg (s.size - (k + 3))
                  case measure => omega
                  case rel => exact ⟨k + 3, q + 1, by go_num, by go_num, rfl, by omega, by omega, rfl, HS2⟩
              · have z101 : ((c.toNat : Int) == 101) = false := by rw [show ((101 : Int)) = ((101 : Nat) : Int) from rfl, f101]; exact decide_eq_false fun h => hc2 (.inl h)
                have z69 : ((c.toNat : Int) == 69) = false := by rw [show ((69 : Int)) = ((69 : Nat) : Int) from rfl, f69]; exact decide_eq_false fun h => hc2 (.inr h)
                have HE := Lib.hid (HST.out fun h => hc2 h.2.2)
                clear h37 h50 hc2 HALL HS HST e37 f50 f101 f69
                go_wp2_with fail
                go_ret
                exact ⟨by rw [HE.out]; rfl, rfl⟩
            · have z50 : ((b.toNat : Int) == 50) = false := by rw [show ((50 : Int)) = ((50 : Nat) : Int) from rfl, f50]; exact decide_eq_false h50
              have HE := Lib.hid (HST.out fun h => h50 h.2.1)
              clear h37 h50 HALL HS HST e37 f50 f101 f69
              go_wp2_with fail
              go_ret
              exact ⟨by rw [HE.out]; rfl, rfl⟩
          · have z37 : ((a.toNat : Int) == 37) = false := by rw [show ((37 : Int)) = ((37 : Nat) : Int) from rfl, e37]; exact decide_eq_false h37
            have HE := Lib.hid (HST.out fun h => h37 h.1)
            clear h37 HALL HS HST e37 f50 f101 f69
            go_wp2_with fail
            go_ret
            exact ⟨by rw [HE.out]; rfl, rfl⟩
        · have hz2 : ¬ (k : Int) + 2 < (s.size : Int) := by omega
          have HE := Lib.hid (HNO.out (by rw [HDR.out]; exact dts_few h46 (by rw [List.length_drop, HL.out]; omega)))
          clear h46 HDR HS HNO e37 h2
          go_wp2_with fail
          go_ret
          exact ⟨by rw [HE.out]; rfl, rfl⟩
    · obtain rfl : k = s.size := by omega
      have HE : Hid (D = (q : Int)) := Lib.hid (by
        rw [← HD.out]
        unfold dtn
        rw [HS.out, List.drop_of_length_le (by rw [HL.out]; exact Nat.le_refl _)]
        simp [dts])
      clear HS
      go_wp2_with fail
      go_ret
      exact ⟨by rw [HE.out]; rfl, rfl⟩
set_option maxHeartbeats 1000000 in
theorem RSingle_any (s : ByteArray) (hs : s.size ≤ 1000000) (w : World) : Calls Tryd.prog 11 #[.string s] w (fun e w' => e = .returned (.bool (sgA s)) ∧ w = w') := by
  have HD := Lib.hid (dots_any s hs w)
  have HE : Hid (sgA s = (dtn (dl s) == 1)) := Lib.hid (by
    show (asc (dl s) && sglL (dl s)) = _
    rw [dtn_one]
    exact (Bool.beq_eq_decide_eq _ _).symm)
  rw [HE.out]
  obtain ⟨D, hD⟩ : ∃ D, dtn (dl s) = D := ⟨_, rfl⟩
  rw [hD] at HD ⊢
  clear hD HE
  go_enter Tryd.func11, Tryd.ntmps11
  go_wp2_with (first | (go_at_call 29; refine HD.out.mono ?_; rintro e w1 ⟨rfl, rfl⟩) | fail)
  go_ret
  exact ⟨rfl, rfl⟩
set_option maxHeartbeats 1000000 in
theorem RDouble_any (s : ByteArray) (hs : s.size ≤ 1000000) (w : World) : Calls Tryd.prog 13 #[.string s] w (fun e w' => e = .returned (.bool (dbA s)) ∧ w = w') := by
  have HD := Lib.hid (dots_any s hs w)
  have HE : Hid (dbA s = (dtn (dl s) == 2)) := Lib.hid (by
    show (asc (dl s) && dblL (dl s)) = _
    rw [dtn_two]
    exact (Bool.beq_eq_decide_eq _ _).symm)
  rw [HE.out]
  obtain ⟨D, hD⟩ : ∃ D, dtn (dl s) = D := ⟨_, rfl⟩
  rw [hD] at HD ⊢
  clear hD HE
  go_enter Tryd.func13, Tryd.ntmps13
  go_wp2_with (first | (go_at_call 29; refine HD.out.mono ?_; rintro e w1 ⟨rfl, rfl⟩) | fail)
  go_ret
  exact ⟨rfl, rfl⟩
end Go.Proofs.YtjkfppgekepbeaaDoor.Pth
