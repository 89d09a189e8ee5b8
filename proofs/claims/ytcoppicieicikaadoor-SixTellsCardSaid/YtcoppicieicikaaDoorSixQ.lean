/-
  strconv.ParseUint as the program calls it; strings.SplitN.
-/
import Derived.Test.YtcoppicieicikaaDoorSixP
namespace Go.Proofs.YtcoppicieicikaaDoor.Sx
open Go.RowKit Go.Shelf

def PuJ (o : Option Nat) (w : World) (e : Ending) (w' : World) : Prop :=
  (match o with | some n => e = .returned (.tuple #[.int .u64 (n : Int), .nilIface]) | none => ∃ v k : Int, (k = 1 ∨ k = 2) ∧ e = .returned (.tuple #[.int .u64 v, .iface 135 (.int .i64 k)])) ∧ Below w.heap.size w w'
def PubR (o : Option Nat) (w : World) (e : Ending) (w' : World) : Prop :=
  (match o with | some n => e = .returned (.tuple #[.int .u64 (n : Int), .nilIface]) | none => ∃ (v : Int) (te : TypeId) (pe : Value), e = .returned (.tuple #[.int .u64 v, .iface te pe])) ∧ Below w.heap.size w w'
set_option maxHeartbeats 1000000 in
theorem pub_of (t : ByteArray) (b s : Int) (o : Option Nat) (w : World) (ht : t.size ≤ 1000000) (hE : Env w) (h : Calls Tryd.prog 92 #[.string t, .int .i64 b, .int .i64 s] w (PuJ o w)) :
    Calls Tryd.prog 76 #[.string t, .int .i64 b, .int .i64 s] w (PubR o w) := by
  have H := Lib.hid h
  have HE := Lib.hid (fun w' (hB : Below w.heap.size w w') => hE.go hB)
  clear h hE
  cases o with
  | some n =>
    go_enter Tryd.func76, Tryd.ntmps76
    go_wp2_with fail
    refine H.out.mono ?_
    rintro e w1 ⟨rfl, hB⟩
    go_wp2_with fail
    go_ret2
    exact ⟨rfl, hB⟩
  | none =>
    go_enter Tryd.func76, Tryd.ntmps76
    go_wp2_with fail
    refine H.out.mono ?_
    rintro e w1 ⟨⟨v, k, hk, rfl⟩, hB⟩
    have hE1 := HE.out _ hB
    rcases hk with rfl | rfl
    · obtain ⟨te, pe, hv⟩ := hE1.ran
      have HT := Lib.hid (Any.strconv_toError_range teLaid ⟨#[80, 97, 114, 115, 101, 85, 105, 110, 116]⟩ t b s (.iface te pe) w1 (by omega) hv (.inr ⟨te, pe, rfl⟩))
      clear hv hE1
      go_wp2_with fail
      refine HT.out.mono ?_
      rintro e w2 ⟨N, rfl, _, _, hB2⟩
      go_wp2_with fail
      go_ret2
      exact ⟨⟨_, _, _, rfl⟩, upB hB hB2⟩
    · obtain ⟨te, pe, hv⟩ := hE1.syn
      have HT := Lib.hid (Any.strconv_toError_syntax teLaid ⟨#[80, 97, 114, 115, 101, 85, 105, 110, 116]⟩ t b s (.iface te pe) w1 (by omega) hv (.inr ⟨te, pe, rfl⟩))
      clear hv hE1
      go_wp2_with fail
      refine HT.out.mono ?_
      rintro e w2 ⟨N, rfl, _, _, hB2⟩
      go_wp2_with fail
      go_ret2
      exact ⟨⟨_, _, _, rfl⟩, upB hB hB2⟩
theorem ParseUint16_any (t : ByteArray) (h4 : t.size ≤ 4) (w : World) (hE : Env w) : Calls Tryd.prog 76 #[.string t, .int .i64 16, .int .i64 16] w (PubR (pce (dl t)) w) := by
  refine pub_of t 16 16 _ w (by omega) hE ?_
  have hz : (dl t).length = t.size := by simp [dl]
  by_cases h0 : t.size = 0
  · obtain rfl : t = ⟨#[]⟩ := by
      apply ByteArray.ext
      exact Array.eq_empty_of_size_eq_zero h0
    refine (Any.internal_strconv_ParseUint_empty (ρ := puLaid_ren) { puLaid with } 16 16 w).mono ?_
    rintro e w' ⟨rfl, rfl⟩
    exact ⟨⟨0, 2, .inr rfl, rfl⟩, Below.refl _ _⟩
  · refine (pu16_in t h0 h4 w).mono ?_
    rintro e w' ⟨rfl, hB⟩
    have hp : pce (dl t) = vgo 16 0 (dl t) := by
      unfold pce
      rw [if_neg]
      rintro (e | e)
      · rw [e] at hz; exact h0 hz.symm
      · omega
    rw [hp]
    cases vgo 16 0 (dl t) with
    | some n => exact ⟨rfl, hB⟩
    | none => exact ⟨⟨0, 2, .inr rfl, rfl⟩, hB⟩
/-- a number below 256, noughts ahead or not -/
def d10 (l : List UInt8) : Option Nat := if l = [] then none else match vgo 10 0 l with
  | some n => if n < 256 then some n else none
  | none => none
theorem dec_d10 (l : List UInt8) : dec l = if 1 < l.length ∧ l.head? = some 48 then none else d10 l := by
  unfold dec d10
  by_cases h : l = []
  · subst h; simp
  · by_cases h2 : 1 < l.length ∧ l.head? = some 48
    · rw [if_pos (.inr h2), if_pos h2]
    · rw [if_neg (by rintro (e | e); exact h e; exact h2 e), if_neg h2, if_neg h]
      cases vgo 10 0 l <;> rfl
theorem vgo_ge (b : Nat) (hb : 1 ≤ b) : ∀ (l : List UInt8) (n m : Nat), vgo b n l = some m → n ≤ m
  | [], n, m, h => by simp only [vgo, Option.some.injEq] at h; omega
  | x :: t, n, m, h => by
    rw [vgo] at h
    split at h
    · have := vgo_ge b hb t _ _ h
      have h2 : n * 1 ≤ n * b := Nat.mul_le_mul_left _ hb
      omega
    · cases h
theorem dv_ten (c : UInt8) : dv c < 10 ↔ 48 ≤ c.toNat ∧ c.toNat ≤ 57 := by
  unfold dv
  split <;> (try split) <;> (try split) <;> omega
theorem dv_ten_eq {c : UInt8} (h : 48 ≤ c.toNat ∧ c.toNat ≤ 57) : dv c = c.toNat - 48 := by unfold dv; rw [if_pos h]
theorem pum_eq : ∀ (l : List UInt8) (a : Nat), a ≤ 255 → match vgo 10 a l with
    | some n => if n < 256 then Lib.parseUintM 255 a l = .ok n else (Lib.parseUintM 255 a l = Lib.NumEnd.range ∨ Lib.parseUintM 255 a l = Lib.NumEnd.syntax)
    | none => Lib.parseUintM 255 a l = Lib.NumEnd.range ∨ Lib.parseUintM 255 a l = Lib.NumEnd.syntax
  | [], a, h => by
    rw [vgo, Lib.parseUintM]
    show if a < 256 then _ else _
    rw [if_pos (by omega)]
  | c :: t, a, h => by
    rw [vgo, Lib.parseUintM]
    by_cases hd : dv c < 10
    · have hc := (dv_ten c).1 hd
      rw [if_pos hd, if_pos hc, if_neg (by omega), ← dv_ten_eq hc]
      by_cases ho : 255 < a * 10 + dv c
      · rw [if_pos ho]
        cases hv : vgo 10 (a * 10 + dv c) t with
        | none => exact .inl rfl
        | some n =>
          have := vgo_ge 10 (by decide) t _ _ hv
          show if n < 256 then _ else _
          rw [if_neg (by omega)]
          exact .inl rfl
      · rw [if_neg ho]
        exact pum_eq t _ (by omega)
    · rw [if_neg hd, if_neg (fun e => hd ((dv_ten c).2 e))]
      exact .inr rfl
theorem bytesB (w : World) (t : ByteArray) : Below w.heap.size w (Lib.bytesWorld w 5 t) := Lib.bytesWorld_below _ _ _
theorem ParseUint10_any (t : ByteArray) (hs : t.size ≤ 1000000) (w : World) (hE : Env w) : Calls Tryd.prog 76 #[.string t, .int .i64 10, .int .i64 8] w (PubR (d10 (dl t)) w) := by
  refine pub_of t 10 8 _ w hs hE ?_
  refine (Any.internal_strconv_ParseUint_10_at8 (ρ := puLaid_ren) { puLaid with } t (by omega) w).mono ?_
  rintro e w' ⟨rfl, hw⟩
  have hB : Below w.heap.size w w' := by
    rcases hw with rfl | rfl
    · exact Below.refl _ _
    · exact bytesB w t
  unfold Lib.parseUintB d10
  by_cases h0 : dl t = []
  · rw [if_pos h0, if_pos h0]
    exact ⟨⟨0, 2, .inr rfl, rfl⟩, hB⟩
  · rw [if_neg h0, if_neg h0]
    have := pum_eq (dl t) 0 (by decide)
    rw [show (2 : Nat) ^ 8 - 1 = 255 by decide]
    cases hv : vgo 10 0 (dl t) with
    | none =>
      rw [hv] at this
      rcases this with e | e <;> rw [e]
      · exact ⟨⟨_, 1, .inl rfl, rfl⟩, hB⟩
      · exact ⟨⟨_, 2, .inr rfl, rfl⟩, hB⟩
    | some n =>
      rw [hv] at this
      simp only at this ⊢
      split
      · rename_i hn
        rw [if_pos hn] at this
        rw [this]
        exact ⟨rfl, hB⟩
      · rename_i hn
        rw [if_neg hn] at this
        rcases this with e | e <;> rw [e]
        · exact ⟨⟨_, 1, .inl rfl, rfl⟩, hB⟩
        · exact ⟨⟨_, 2, .inr rfl, rfl⟩, hB⟩

/-! strings.SplitN at a point, four parts at most. -/
def cut3 : Nat → List UInt8 → List (List UInt8)
  | 0, l => [l]
  | k + 1, l => match cutg [46] l with
    | none => [l]
    | some p => p.1 :: cut3 k p.2
theorem splitB_eq : ∀ (k : Nat) (s : ByteArray), (Lib.splitB ⟨#[46]⟩ 0 k s).map dl = cut3 k (dl s)
  | 0, s => rfl
  | k + 1, s => by
    have hi : Lib.indexB s ⟨#[46]⟩ = match cutg [46] (dl s) with | some p => (p.1.length : Int) | none => -1 := index_eq (by simp) (dl s)
    rw [Lib.splitB, cut3]
    cases h : cutg [46] (dl s) with
    | none =>
      rw [h] at hi
      rw [hi]
      rfl
    | some p =>
      rw [h] at hi
      simp only at hi ⊢
      have hne : (Lib.indexB s ⟨#[46]⟩ == -1) = false := by rw [hi, beq_eq_false_iff_ne]; omega
      obtain ⟨e1, _⟩ := cut1_some h
      rw [if_neg (by rw [hne]; decide), hi, Int.toNat_natCast, List.map_cons, Nat.add_zero, splitB_eq k]
      congr 1
      · rw [dl, ext_take, show s.data.toList = dl s from rfl, e1]
        simp
      · congr 1
        rw [dl, ext_drop _ _ _ rfl, show s.data.toList = dl s from rfl, e1]
        simp
        rfl
theorem cut3_len : ∀ (k : Nat) (l : List UInt8), (cut3 k l).length ≤ k + 1
  | 0, l => by simp [cut3]
  | k + 1, l => by
    rw [cut3]
    split
    · simp
    · have := cut3_len k
      simp only [List.length_cons]
      have := this ‹List UInt8 × List UInt8›.2
      omega
theorem cut3_short : ∀ (k j : Nat) (l : List UInt8), l.length ≤ k → cut3 (k + j) l = cut3 k l
  | 0, j, l, h => by
    obtain rfl : l = [] := List.eq_nil_of_length_eq_zero (by omega)
    cases j <;> rfl
  | k + 1, j, l, h => by
    rw [show k + 1 + j = (k + j) + 1 by omega, cut3, cut3]
    cases hc : cutg [46] l with
    | none => rfl
    | some p =>
      have := (cut1_some hc).1
      have hl := congrArg List.length this
      rw [List.length_append, List.length_cons] at hl
      simp only
      rw [cut3_short k j p.2 (by omega)]
/-- the parts of an embedded address -/
def SplitR (l : List UInt8) (w : World) (e : Ending) (w' : World) : Prop := ∃ (xs : List ByteArray) (c : Nat), e = .returned (.slice (some ⟨w.heap.size, 0, none⟩) xs.length c) ∧ xs.map dl = cut3 3 l ∧ (∀ (j : Nat) x, xs[j]? = some x → w'.cell? ⟨w.heap.size, j, none⟩ = some (.string x)) ∧ w.heap.size < w'.heap.size ∧ Below w.heap.size w w'
theorem SplitN_any (s : ByteArray) (hs : s.size ≤ 1000000) (w : World) (hE : Env w) : Calls Tryd.prog 91 #[.string s, .string ⟨#[46]⟩, .int .i64 4] w (SplitR (dl s) w) := by
  obtain ⟨m, hm⟩ := hE.max
  refine (Any.strings_SplitN spnLaid info_s s ⟨#[46]⟩ 4 m w (by omega) hm (by decide) (by decide) (by decide)).mono ?_
  rintro e w' ⟨rfl, rfl⟩
  have hz : (dl s).length = s.size := by simp [dl]
  have hc : (Lib.splitB ⟨#[46]⟩ 0 (min 4 (s.size + 1) - 1) s).map dl = cut3 3 (dl s) := by
    rw [splitB_eq]
    by_cases h : s.size ≤ 2
    · have := cut3_short s.size (3 - s.size) (dl s) (by omega)
      rw [show s.size + (3 - s.size) = 3 by omega] at this
      rw [this, show min 4 (s.size + 1) - 1 = s.size by omega]
    · rw [show min 4 (s.size + 1) - 1 = 3 by omega]
  have hlen : (Lib.splitB ⟨#[46]⟩ 0 (min 4 (s.size + 1) - 1) s).length ≤ min 4 (s.size + 1) := by
    have := congrArg List.length (splitB_eq (min 4 (s.size + 1) - 1) s)
    rw [List.length_map] at this
    rw [this]
    have := cut3_len (min 4 (s.size + 1) - 1) (dl s)
    omega
  refine ⟨_, _, rfl, hc, fun j x hx => ?_, by simp, (Below.refl _ w).alloc (Nat.le_refl _) _⟩
  rw [World.cell?_alloc_new]
  have hj := (List.getElem?_eq_some_iff.1 hx).1
  unfold Lib.cellsOf
  simp [List.getElem?_append, hj]
  exact (List.getElem?_eq_some_iff.1 hx).2
end Go.Proofs.YtcoppicieicikaaDoor.Sx
