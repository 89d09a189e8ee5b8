/-
  fasciaref13: four.
-/
import Derived.Test.YtcoppicieicikaaDoorSixRF
import Derived.Deep.CutBlock
import Derived.OwnWalk
namespace Go.Proofs.YtcoppicieicikaaDoor.Sx
open Go.RowKit

theorem wth_drop (l : List UInt8) (k : Nat) : wth l k = match l.drop k with | c :: _ => dv c | [] => 99 := by
  unfold wth
  rw [← List.head?_drop]
  cases l.drop k <;> rfl
theorem isb_drop (l : List UInt8) (k c : Nat) : isb l k c = match l.drop k with | d :: _ => d.toNat == c | [] => false := by
  unfold isb
  rw [← List.head?_drop]
  cases l.drop k <;> rfl
theorem drop_next {l t : List UInt8} {k : Nat} {c : UInt8} (h : l.drop k = c :: t) : l.drop (k + 1) = t ∧ k < l.length := by
  refine ⟨?_, ?_⟩
  · rw [← List.drop_drop, h]; rfl
  · rcases Nat.lt_or_ge k l.length with h1 | h1
    · exact h1
    · rw [List.drop_of_length_le h1] at h; cases h
theorem isb_true {l : List UInt8} {k c : Nat} (_ : c < 256) (h : isb l k c = true) : ∃ t, l.drop k = UInt8.ofNat c :: t := by
  rw [isb_drop] at h
  cases hd : l.drop k with
  | nil => rw [hd] at h; cases h
  | cons d t =>
    rw [hd] at h
    have : d.toNat = c := eq_of_beq h
    exact ⟨t, by rw [← this]; simp⟩
theorem isb_false {l : List UInt8} {k c : Nat} (hc : c < 256) (h : isb l k c = false) : (l.drop k).head? ≠ some (UInt8.ofNat c) := by
  rw [isb_drop] at h
  cases hd : l.drop k with
  | nil => simp
  | cons d t =>
    rw [hd] at h
    have h2 := beq_eq_false_iff_ne.1 h
    intro e
    apply h2
    rw [Option.some.inj e]
    simp; omega
theorem wth_lt {l : List UInt8} {k b : Nat} (hb : b ≤ 16) (h : wth l k < b) : ∃ c t, l.drop k = c :: t ∧ dv c = wth l k ∧ dv c < b := by
  rw [wth_drop] at h ⊢
  cases hd : l.drop k with
  | nil => rw [hd] at h; simp only at h; omega
  | cons c t => rw [hd] at h; exact ⟨c, t, rfl, rfl, h⟩
theorem wth_ge {l : List UInt8} {k b : Nat} (h : ¬ wth l k < b) : ∀ c, (l.drop k).head? = some c → ¬ dv c < b := by
  rw [wth_drop] at h
  intro c hc
  cases hd : l.drop k with
  | nil => rw [hd] at hc; cases hc
  | cons d t => rw [hd] at h hc; rw [← Option.some.inj hc]; exact h
def o1 : List Nat → Nat | [] => 0 | [a] => a | a :: b :: _ => a * 256 + b
def o2 : List Nat → Nat | [_, _, c] => c | [_, _, c, d] => c * 256 + d | _ => 0
theorem o_lo {ds : List Nat} (h : ds.length < 2) (v : Nat) : o1 (ds ++ [v]) = 256 * o1 ds + v ∧ o2 (ds ++ [v]) = o2 ds := by
  rcases ds with _ | ⟨a, _ | ⟨b, t⟩⟩
  · simp [o1, o2]
  · simp [o1, o2]; omega
  · simp only [List.length_cons] at h; omega
theorem o_hi {ds : List Nat} (h : 2 ≤ ds.length) (h4 : ds.length < 4) (v : Nat) : o1 (ds ++ [v]) = o1 ds ∧ o2 (ds ++ [v]) = 256 * o2 ds + v := by
  rcases ds with _ | ⟨a, _ | ⟨b, _ | ⟨c, _ | ⟨d, t⟩⟩⟩⟩
  · simp at h
  · simp at h
  · simp [o1, o2]
  · simp [o1, o2]; omega
  · simp at h4; omega
theorem o_end {ds : List Nat} (h : ds.length = 4) : two4 ds = some [o1 ds, o2 ds] := by
  rcases ds with _ | ⟨a, _ | ⟨b, _ | ⟨c, _ | ⟨d, _ | ⟨e, t⟩⟩⟩⟩⟩ <;> first | rfl | (simp at h)
theorem o_bound {ds : List Nat} (h : ∀ d ∈ ds, d < 256) : o1 ds ≤ 65535 ∧ o2 ds ≤ 65535 := by
  rcases ds with _ | ⟨a, _ | ⟨b, _ | ⟨c, _ | ⟨d, _ | ⟨e, t⟩⟩⟩⟩⟩
  · simp [o1, o2]
  · have := h a (by simp); simp [o1, o2]; omega
  · have := h a (by simp); have := h b (by simp); simp [o1, o2]; omega
  · have := h a (by simp); have := h b (by simp); have := h c (by simp); simp [o1, o2]; omega
  · have := h a (by simp); have := h b (by simp); have := h c (by simp); have := h d (by simp); simp [o1, o2]; omega
  · have := h a (by simp); have := h b (by simp); simp [o1, o2]; omega
/-- two numbers, and whether they are -/
def FourR (o : Option (List Nat)) (w : World) (e : Ending) (w' : World) : Prop := ∃ (a b : Nat) (q : Bool), e = .returned (.tuple #[.int .i64 (a : Int), .int .i64 (b : Int), .bool q]) ∧ (match o with | some y => q = true ∧ y = [a, b] | none => q = false) ∧ w' = w
theorem fourR_none {o : Option (List Nat)} {w : World} (h : o = none) (a b : Nat) : FourR o w (.returned (.tuple #[.int .i64 (a : Int), .int .i64 (b : Int), .bool false])) w := by subst h; exact ⟨a, b, false, rfl, rfl, rfl⟩
theorem fourR_some {o : Option (List Nat)} {w : World} {a b : Nat} (h : o = some [a, b]) : FourR o w (.returned (.tuple #[.int .i64 (a : Int), .int .i64 (b : Int), .bool true])) w := by subst h; exact ⟨a, b, true, rfl, ⟨rfl, rfl⟩, rfl⟩
/-- ahead of a number's dot -/
def TOP (X : Option (List Nat)) (n : Nat) (ds : List Nat) (r : List UInt8) : Prop := (n = 0 ∧ X = (nums 4 r).map fun m => ds ++ m) ∨ (0 < n ∧ X = rst (4 - n) ds r)
/-- within a number -/
def MID (X : Option (List Nat)) (k : Nat) (ds : List Nat) (q r : List UInt8) (z : Int) : Prop := X = ((nums (k + 1) (q ++ r)).map fun m => ds ++ m) ∧ (∀ c ∈ q, dv c < 10) ∧ ((q = [] ∧ z = -1 ∧ ∃ c t, r = c :: t ∧ dv c < 10) ∨ ∃ v : Nat, dec q = some v ∧ z = (v : Int))
theorem TOP.dot {X : Option (List Nat)} {n : Nat} {ds : List Nat} {r t : List UInt8} (h : TOP X n ds r) (hn : 0 < n) (h4 : n < 4) (hr : r = 46 :: t) : X = (nums (4 - n) t).map fun m => ds ++ m := by
  rcases h with ⟨h, _⟩ | ⟨_, h⟩
  · omega
  · rw [h, show 4 - n = (3 - n) + 1 by omega, hr]
    simp only [rst, if_true]
theorem TOP.no {X : Option (List Nat)} {n : Nat} {ds : List Nat} {r : List UInt8} (h : TOP X n ds r) (hn : 0 < n) (h4 : n < 4) (hr : r.head? ≠ some 46) : X = none := by
  rcases h with ⟨h, _⟩ | ⟨_, h⟩
  · omega
  · rw [h, show 4 - n = (3 - n) + 1 by omega]
    cases r with
    | nil => rfl
    | cons c t => simp only [rst]; rw [if_neg (fun e => hr (by rw [e]; rfl))]
theorem MID.start {X : Option (List Nat)} {k : Nat} {ds : List Nat} {c : UInt8} {t : List UInt8} (h : X = (nums (k + 1) (c :: t)).map fun m => ds ++ m) (hc : dv c < 10) : MID X k ds [] (c :: t) (-1) := ⟨h, (fun c h => by cases h), .inl ⟨rfl, rfl, c, t, rfl, hc⟩⟩
theorem MID.one {X : Option (List Nat)} {k : Nat} {ds : List Nat} {q : List UInt8} {c : UInt8} {t : List UInt8} (h : MID X k ds q (c :: t) (-1)) (hc : dv c < 10) : MID X k ds [c] t (dv c : Int) := by
  obtain ⟨h1, h2, h3⟩ := h
  rcases h3 with ⟨rfl, _, _⟩ | ⟨v, _, hv⟩
  · refine ⟨h1, fun d hd => ?_, .inr ⟨dv c, dec_one hc, rfl⟩⟩
    rw [List.mem_singleton.1 hd]; exact hc
  · omega
theorem MID.nought {X : Option (List Nat)} {k : Nat} {ds : List Nat} {q : List UInt8} {c : UInt8} {t : List UInt8} (h : MID X k ds q (c :: t) 0) (hc : dv c < 10) : X = none := by
  obtain ⟨h1, h2, h3⟩ := h
  rcases h3 with ⟨_, hz, _⟩ | ⟨v, hd, hv⟩
  · omega
  · obtain rfl : v = 0 := by omega
    obtain rfl := dec_nought hd
    rw [h1, show ([48] : List UInt8) ++ c :: t = ([48] ++ [c]) ++ t by simp, nums_no (q := [48] ++ [c]) (by
      intro d hd
      simp only [List.mem_append, List.mem_singleton] at hd
      rcases hd with rfl | rfl
      · decide
      · exact hc) (fun e => by rw [List.append_assoc]; exact dec_zero c e)]
    rfl
theorem MID.over {X : Option (List Nat)} {k : Nat} {ds : List Nat} {q : List UInt8} {c : UInt8} {t : List UInt8} {v : Nat} (h : MID X k ds q (c :: t) (v : Int)) (hc : dv c < 10) (ho : 255 < 10 * v + dv c) : X = none := by
  obtain ⟨h1, h2, h3⟩ := h
  rcases h3 with ⟨_, hz, _⟩ | ⟨v', hd, hv⟩
  · omega
  · obtain rfl : v = v' := by omega
    rw [h1, show q ++ c :: t = (q ++ [c]) ++ t by simp, nums_no (q := q ++ [c]) (by
      intro d hd
      simp only [List.mem_append, List.mem_singleton] at hd
      rcases hd with h | rfl
      · exact h2 d h
      · exact hc) (fun e => by rw [List.append_assoc]; exact dec_over hd hc ho e)]
    rfl
theorem MID.more {X : Option (List Nat)} {k : Nat} {ds : List Nat} {q : List UInt8} {c : UInt8} {t : List UInt8} {v : Nat} (h : MID X k ds q (c :: t) (v : Int)) (h0 : v ≠ 0) (hc : dv c < 10) (ho : 10 * v + dv c ≤ 255) : MID X k ds (q ++ [c]) t (10 * (v : Int) + (dv c : Int)) := by
  obtain ⟨h1, h2, h3⟩ := h
  rcases h3 with ⟨_, hz, _⟩ | ⟨v', hd, hv⟩
  · omega
  · obtain rfl : v = v' := by omega
    refine ⟨by rw [h1, List.append_assoc]; rfl, ?_, .inr ⟨10 * v + dv c, dec_step hd h0 hc ho, by omega⟩⟩
    intro d hd
    simp only [List.mem_append, List.mem_singleton] at hd
    rcases hd with h | rfl
    · exact h2 d h
    · exact hc
theorem MID.val {X : Option (List Nat)} {k : Nat} {ds : List Nat} {q r : List UInt8} {z : Int} (h : MID X k ds q r z) : z = -1 ∨ ∃ v : Nat, z = (v : Int) ∧ v ≤ 255 := by
  rcases h.2.2 with ⟨_, h, _⟩ | ⟨v, hd, h⟩
  · exact .inl h
  · exact .inr ⟨v, h, by have := (dec_some hd).2.2.1; omega⟩
theorem MID.out {X : Option (List Nat)} {k : Nat} {ds : List Nat} {q r : List UInt8} {z : Int} (h : MID X k ds q r z) (hr : ∀ c, r.head? = some c → ¬ dv c < 10) : ∃ v : Nat, z = (v : Int) ∧ v ≤ 255 ∧ X = rst k (ds ++ [v]) r := by
  obtain ⟨h1, h2, h3⟩ := h
  rcases h3 with ⟨_, _, c, t, rfl, hc⟩ | ⟨v, hd, hv⟩
  · exact absurd hc (hr c rfl)
  · refine ⟨v, hv, by have := (dec_some hd).2.2.1; omega, ?_⟩
    rw [h1, nums_run ds h2 hr, hd]
    rfl
theorem nums_head {k : Nat} {r : List UInt8} (hr : ∀ c, r.head? = some c → ¬ dv c < 10) : nums (k + 1) r = none := by
  have := nums_run (k := k) (q := []) (t := r) [] (fun c h => by cases h) hr
  rw [List.nil_append] at this
  cases h : nums (k + 1) r with
  | none => rfl
  | some m => rw [h] at this; cases this
set_option maxRecDepth 100000 in
set_option maxHeartbeats 4000000 in
theorem refFour_any (s : ByteArray) (hs : s.size ≤ 100) (b0 : Nat) (hb : b0 ≤ s.size) (w : World) : Calls Tryd.prog 30 #[.string s, .int .i64 (b0 : Int)] w (FourR (four ((dl s).drop b0)) w) := by
  have hll : (dl s).length = s.size := by simp [dl]
  have HW := Lib.hid (fun (k : Nat) (hk : k ≤ 200) W => worth_any s k W hk)
  have HI := Lib.hid (fun (k : Nat) (hk : k ≤ 200) W => is_any s k 46 W hk)
  rw [four_nums]
  obtain ⟨l, hl⟩ : ∃ l, dl s = l := ⟨_, rfl⟩
  rw [hl] at hll HW HI ⊢
  obtain ⟨X, hX⟩ : ∃ X, nums 4 (l.drop b0) = X := ⟨_, rfl⟩
  have HX : Hid (TOP X 0 [] (l.drop b0)) := Lib.hid (.inl ⟨rfl, by rw [← hX]; simp⟩)
  have HLL := Lib.hid hll
  rw [hX]
  clear hX hl hll
  go_enter Tryd.func30, Tryd.ntmps30
  go_wp2_with fail
  go_loopg [1, 7, 8, 9] 4 (fun m s1 s7 s8 s9 wr => ∃ (a : Nat) (ds : List Nat) (n o p : Nat), s1 = .int .i64 (a : Int) ∧ s7 = .int .i64 (o : Int) ∧ s8 = .int .i64 (p : Int) ∧ s9 = .int .i64 (n : Int) ∧ 4 - n = m ∧ n ≤ 4 ∧ a ≤ s.size ∧ o ≤ 65535 ∧ p ≤ 65535 ∧ Hid (ds.length = n ∧ o = o1 ds ∧ p = o2 ds ∧ ∀ d ∈ ds, d < 256) ∧ Hid (TOP X n ds (l.drop a)) ∧ wr = w)
  case atStart => exact ⟨b0, [], 0, 0, 0, rfl, rfl, rfl, rfl, rfl, by decide, hb, by decide, by decide, Lib.hid ⟨rfl, rfl, rfl, fun d h => by cases h⟩, HX, rfl⟩
  case round =>
    clear HX hb
    obtain ⟨a, ds, n, o, p, rfl, rfl, rfl, rfl, rfl, hn, ha, ho, hp, HD, HT, rfl⟩ := hrel
    by_cases hn4 : n < 4
    · have hn4z : (n : Int) < 4 := by omega
      go_upto_if 17 with fail
      go_cut [1] from 12 to 57 (fun s1 wr' => ∃ b : Nat, s1 = .int .i64 (b : Int) ∧ b ≤ s.size ∧ Hid (X = (nums (4 - n) (l.drop b)).map fun m => ds ++ m) ∧ wr' = wr)
      case first =>
        by_cases hn0 : n = 0
        · have hn0z : ¬ (0 : Int) < (n : Int) := by omega
          have HX2 : Hid (X = (nums (4 - n) (l.drop a)).map fun m => ds ++ m) := Lib.hid (by
            rcases HT.out with ⟨_, h⟩ | ⟨h, _⟩
            · rw [hn0]; exact h
            · omega)
          clear hn0
          go_wp2_with fail
          go_meet
          exact ⟨a, rfl, ha, HX2, rfl⟩
        · have hn0z : (0 : Int) < (n : Int) := by omega
          have HI1 := Lib.hid (HI.out a (by omega))
          cases hq : isb l a 46 with
          | true =>
            obtain ⟨t, ht⟩ := isb_true (by decide) hq
            rw [hq] at HI1
            have hd := drop_next ht
            have HX2 : Hid (X = (nums (4 - n) (l.drop (a + 1))).map fun m => ds ++ m) := Lib.hid (by rw [hd.1]; exact HT.out.dot (by omega) hn4 ht)
            have hal : a + 1 ≤ s.size := by have := hd.2; rw [HLL.out] at this; omega
            clear hd ht hq hn0
            go_wp2_with fail
            refine (HI1.out _).mono ?_
            rintro e w1 ⟨rfl, rfl⟩
            go_wp2_with fail
            go_meet
            exact ⟨a + 1, by go_num, hal, HX2, rfl⟩
          | false =>
            have HN : Hid (X = none) := Lib.hid (HT.out.no (by omega) hn4 (isb_false (by decide) hq))
            rw [hq] at HI1
            clear hq hn0
            go_wp2_with fail
            refine (HI1.out _).mono ?_
            rintro e w1 ⟨rfl, rfl⟩
            go_wp2_with fail
            go_ret3
            exact fourR_none (o := X.bind two4) (by rw [HN.out]; rfl) 0 0
      case rest =>
        clear HT ha
        obtain ⟨b, rfl, hb, HX2, rfl⟩ := hcut
        obtain ⟨k, hk⟩ : ∃ k, 4 - n = k + 1 := ⟨3 - n, by omega⟩
        have hkn : n + k = 3 := by omega
        rw [hk] at HX2
        have HW1 := Lib.hid (HW.out b (by omega))
        obtain ⟨v0, hv0⟩ : ∃ v, wth l b = v := ⟨_, rfl⟩
        rw [hv0] at HW1
        clear hk
        by_cases h9 : 9 < v0
        · have h9z : (9 : Int) < (v0 : Int) := by omega
          have HN : Hid (X = none) := Lib.hid (by rw [HX2.out, nums_head (wth_ge (by omega))]; rfl)
          clear h9 hv0
          go_upto_region 10 with fail
          go_wp2_with (first | (go_at_call 29; refine (HW1.out _).mono ?_; rintro e w1 ⟨rfl, rfl⟩) | fail)
          go_ret3
          exact fourR_none (o := X.bind two4) (by rw [HN.out]; rfl) 0 0
        · have h9z : ¬ (9 : Int) < (v0 : Int) := by omega
          have HM : Hid (MID X k ds [] (l.drop b) (-1)) := Lib.hid (by
            obtain ⟨c, t, hd, hc, hc10⟩ := wth_lt (l := l) (k := b) (b := 10) (by decide) (by omega)
            rw [hd]
            rw [hd] at HX2
            exact MID.start HX2.out hc10)
          clear h9 hv0 HX2
          go_upto_region 10 with fail
          go_upto_region 12 with (first | (go_at_call 29; refine (HW1.out _).mono ?_; rintro e w1 ⟨rfl, rfl⟩) | fail)
          rename World => wz
          go_loopg [1, 10] (s.size - b) (fun m s1 s10 wx => ∃ (c : Nat) (q : List UInt8) (z : Int), s1 = .int .i64 (c : Int) ∧ s10 = .int .i64 z ∧ s.size - c = m ∧ c ≤ s.size ∧ Hid (MID X k ds q (l.drop c) z) ∧ wx = wz)
          case atStart => exact ⟨b, [], -1, rfl, rfl, rfl, hb, HM, rfl⟩
          case round =>
            clear HM hb HW1 h9z
            obtain ⟨c, q, z, rfl, rfl, rfl, hc, HM, rfl⟩ := hrel
            have HWc := Lib.hid (HW.out c (by omega))
            obtain ⟨d, hd⟩ : ∃ v, wth l c = v := ⟨_, rfl⟩
            rw [hd] at HWc
            by_cases hd9 : d ≤ 9
            · have hd9z : (d : Int) ≤ 9 := by omega
              obtain ⟨cc, t, hdr, hcv, hc10⟩ := wth_lt (l := l) (k := c) (b := 10) (by decide) (by omega)
              rw [hd] at hcv
              have hnx := drop_next hdr
              have hcs : c + 1 ≤ s.size := by have := hnx.2; rw [HLL.out] at this; omega
              rw [hdr] at HM
              rw [← hcv] at hd9z HWc
              have HDR : Hid (l.drop (c + 1) = t) := Lib.hid hnx.1
              have HC10 := Lib.hid hc10
              obtain ⟨d', hd'⟩ : ∃ v, dv cc = v := ⟨_, rfl⟩
              have HD' := Lib.hid hd'
              rw [hd'] at hd9z HWc
              rcases HM.out.val with rfl | ⟨v, rfl, hv⟩
              · have HM2 : Hid (MID X k ds [cc] t (d' : Int)) := Lib.hid (by rw [← hd']; exact HM.out.one hc10)
                have hov : ¬ (255 : Int) < (d' : Int) := by omega
                clear hd hdr hcv hc10 hnx hd9 HM hd'
                go_wp2_with (first | (go_at_call 29; refine (HWc.out _).mono ?_; rintro e w1 ⟨rfl, rfl⟩) | fail)
                go_roundg (s.size - (c + 1))
                case measure => omega
                case rel => exact ⟨c + 1, _, _, by go_num, rfl, rfl, hcs, by rw [HDR.out]; exact HM2, rfl⟩
              · by_cases hv0 : v = 0
                · subst hv0
                  have HN : Hid (X = none) := Lib.hid (HM.out.nought hc10)
                  clear hd hdr hcv hc10 hnx hd9 HM hd'
                  go_wp2_with (first | (go_at_call 29; refine (HWc.out _).mono ?_; rintro e w1 ⟨rfl, rfl⟩) | fail)
                  go_ret3
                  exact fourR_none (o := X.bind two4) (by rw [HN.out]; rfl) 0 0
                · have hvz : ((v : Int) == 0) = false := by rw [beq_eq_false_iff_ne]; omega
                  have hvm : ((v : Int) == -1) = false := by rw [beq_eq_false_iff_ne]; omega
                  by_cases hov : 255 < 10 * v + d'
                  · have hovz : (255 : Int) < 10 * (v : Int) + (d' : Int) := by omega
                    have HN : Hid (X = none) := Lib.hid (HM.out.over hc10 (by omega))
                    clear hd hdr hcv hc10 hnx hd9 HM hd' hov
                    go_wp2_with (first | (go_at_call 29; refine (HWc.out _).mono ?_; rintro e w1 ⟨rfl, rfl⟩) | fail)
                    go_ret3
                    exact fourR_none (o := X.bind two4) (by rw [HN.out]; rfl) 0 0
                  · have hovz : ¬ (255 : Int) < 10 * (v : Int) + (d' : Int) := by omega
                    have HM2 : Hid (MID X k ds (q ++ [cc]) t (10 * (v : Int) + (d' : Int))) := Lib.hid (by rw [← hd']; exact HM.out.more hv0 hc10 (by omega))
                    clear hd hdr hcv hc10 hnx hd9 HM hd' hov
                    go_wp2_with (first | (go_at_call 29; refine (HWc.out _).mono ?_; rintro e w1 ⟨rfl, rfl⟩) | fail)
                    go_roundg (s.size - (c + 1))
                    case measure => omega
                    case rel => exact ⟨c + 1, _, _, by go_num, rfl, rfl, hcs, by rw [HDR.out]; exact HM2, rfl⟩
            · have hd9z : ¬ (d : Int) ≤ 9 := by omega
              obtain ⟨v, rfl, hv, hX⟩ := HM.out.out (wth_ge (b := 10) (by omega))
              have hD := HD.out
              have HD2 : Hid ((ds ++ [v]).length = n + 1 ∧ ∀ e ∈ ds ++ [v], e < 256) := Lib.hid ⟨by rw [List.length_append, hD.1]; rfl, fun e he => by
                simp only [List.mem_append, List.mem_singleton] at he
                rcases he with h | rfl
                · exact hD.2.2.2 e h
                · omega⟩
              have HT2 : Hid (TOP X (n + 1) (ds ++ [v]) (l.drop c)) := Lib.hid (.inr ⟨by omega, by rw [hX, show 4 - (n + 1) = k by omega]⟩)
              have hOB := o_bound HD2.out.2
              by_cases hn2 : n < 2
              · have hn2z : (n : Int) < 2 := by omega
                have HO : Hid (256 * o + v = o1 (ds ++ [v]) ∧ p = o2 (ds ++ [v])) := Lib.hid (by
                  have := o_lo (ds := ds) (by omega) v
                  rw [this.1, this.2, hD.2.1, hD.2.2.1]
                  exact ⟨rfl, rfl⟩)
                have hob : 256 * o + v ≤ 65535 := by rw [HO.out.1]; exact hOB.1
                clear hd hd9 hX hD HM hOB hn2
                go_wp2_with (first | (go_at_call 29; refine (HWc.out _).mono ?_; rintro e w1 ⟨rfl, rfl⟩) | fail)
                go_roundg (4 - (n + 1))
                case measure => omega
                case rel => exact ⟨c, ds ++ [v], n + 1, 256 * o + v, p, rfl, by go_num, rfl, by go_num, rfl, by omega, hc, hob, hp, Lib.hid ⟨HD2.out.1, HO.out.1, HO.out.2, HD2.out.2⟩, HT2, rfl⟩
              · have hn2z : ¬ (n : Int) < 2 := by omega
                have HO : Hid (o = o1 (ds ++ [v]) ∧ 256 * p + v = o2 (ds ++ [v])) := Lib.hid (by
                  have := o_hi (ds := ds) (by omega) (by omega) v
                  rw [this.1, this.2, hD.2.1, hD.2.2.1]
                  exact ⟨rfl, rfl⟩)
                have hob : 256 * p + v ≤ 65535 := by rw [HO.out.2]; exact hOB.2
                clear hd hd9 hX hD HM hOB hn2
                go_wp2_with (first | (go_at_call 29; refine (HWc.out _).mono ?_; rintro e w1 ⟨rfl, rfl⟩) | fail)
                go_roundg (4 - (n + 1))
                case measure => omega
                case rel => exact ⟨c, ds ++ [v], n + 1, o, 256 * p + v, rfl, rfl, by go_num, by go_num, rfl, by omega, hc, ho, hob, Lib.hid ⟨HD2.out.1, HO.out.1, HO.out.2, HD2.out.2⟩, HT2, rfl⟩
    · obtain rfl : n = 4 := by omega
      have HTT : Hid (X = if l.drop a = [] then some ds else none) := Lib.hid (by
        rcases HT.out with ⟨h, _⟩ | ⟨_, h⟩
        · omega
        · exact h)
      have HO4 : Hid (two4 ds = some [o, p]) := Lib.hid (by rw [o_end HD.out.1, HD.out.2.1, HD.out.2.2.1])
      clear HT hn4
      by_cases hae : a = s.size
      · have haz : ((a : Int) == (s.size : Int)) = true := by rw [beq_iff_eq]; omega
        have HR : Hid ((X.bind two4) = some [o, p]) := Lib.hid (by
          rw [HTT.out, if_pos (List.drop_of_length_le (by rw [HLL.out]; omega))]
          exact HO4.out)
        clear hae HTT
        go_wp2_with fail
        go_ret3
        exact fourR_some HR.out
      · have haz : ((a : Int) == (s.size : Int)) = false := by rw [beq_eq_false_iff_ne]; omega
        have HR : Hid ((X.bind two4) = none) := Lib.hid (by
          rw [HTT.out, if_neg (fun e => by
            have := congrArg List.length e
            rw [List.length_drop, HLL.out] at this
            simp at this
            omega)]
          rfl)
        clear hae HTT
        go_wp2_with fail
        go_ret3
        exact fourR_none HR.out o p
end Go.Proofs.YtcoppicieicikaaDoor.Sx
