/-
  The document's own answer for layer 1, as plain functions, and that it is the same division into codes.
-/
import Derived.Test.YtignohjphblpdaaUtfMath4
namespace Go.Proofs.Ytignohjphblpdaa.Utf
set_option linter.unusedSimpArgs false

def lng (c : Int) : Nat := if c < 128 then 1 else if 192 ≤ c ∧ c < 224 then 2 else if 224 ≤ c ∧ c < 240 then 3 else if 240 ≤ c ∧ c < 248 then 4 else 0
def numHead (c : Int) (n : Nat) : Int := if n = 2 then c - 192 else if n = 3 then c - 224 else if n = 4 then c - 240 else c
/-- what a place says -/
def digit (o : Option Int) (fill : Int) : Int := if o.isSome then o.getD 0 - 128 else fill
theorem digit_some (y fill : Int) : digit (some y) fill = y - 128 := by simp [digit]
theorem digit_none (fill : Int) : digit none fill = fill := by simp [digit]
/-- the loop of 'number': m places are left, from i on -/
def numGo (b : List Int) (fill : Int) : Nat → Nat → Int → Int
  | 0, _, x => x
  | m + 1, i, x => numGo b fill m (i + 1) (64 * x + digit b[i]? fill)
def num (b : List Int) (n : Nat) (fill : Int) : Int := numGo b fill (n - 1) 1 (numHead (b.getD 0 0) n)
def tailsM (b : List Int) : Bool := (b.drop 1).all fun y => decide (128 ≤ y ∧ y ≤ 191)
def fromM (n : Nat) : Int := if n = 2 then 128 else if n = 3 then 2048 else if n = 4 then 65536 else 0
def low1 (lo fr : Int) : Int := if lo < fr then fr else lo
def top1 (t : Int) : Int := if 1114111 < t then 1114111 else t
def low2 (lo : Int) : Int := if 55296 ≤ lo ∧ lo ≤ 57343 then 57344 else lo
def goesM (b : List Int) : Bool :=
  match b with
  | [] => false
  | c :: _ => !(decide (lng c = 0) || decide (lng c < b.length) || !tailsM b) && decide (low2 (low1 (num b (lng c) 0) (fromM (lng c))) ≤ top1 (num b (lng c) 63))

theorem lng1 {c : Int} (h : c < 128) : lng c = 1 := by simp [lng, h]
theorem lng2 {c : Int} (h : 192 ≤ c) (h' : c < 224) : lng c = 2 := by unfold lng; rw [if_neg (by omega), if_pos ⟨h, h'⟩]
theorem lng3 {c : Int} (h : 224 ≤ c) (h' : c < 240) : lng c = 3 := by unfold lng; rw [if_neg (by omega), if_neg (by omega), if_pos ⟨h, h'⟩]
theorem lng4 {c : Int} (h : 240 ≤ c) (h' : c < 248) : lng c = 4 := by unfold lng; rw [if_neg (by omega), if_neg (by omega), if_neg (by omega), if_pos ⟨h, h'⟩]
theorem lng0 {c : Int} (h : 128 ≤ c) (h' : c < 192 ∨ 248 ≤ c) : lng c = 0 := by unfold lng; rw [if_neg (by omega), if_neg (by omega), if_neg (by omega), if_neg (by omega)]

/-- may the bytes go on to a scalar? in plain ranges -/
def pre (b : List Int) : Prop :=
  match b with
  | [] => False
  | [c] => c ≤ 127 ∨ (194 ≤ c ∧ c ≤ 244)
  | [c, d] => (194 ≤ c ∧ c ≤ 223 ∧ 128 ≤ d ∧ d ≤ 191) ∨ (224 ≤ c ∧ c ≤ 244 ∧ loB c ≤ d ∧ d ≤ hiB c)
  | [c, d, e] => 224 ≤ c ∧ c ≤ 244 ∧ loB c ≤ d ∧ d ≤ hiB c ∧ 128 ≤ e ∧ e ≤ 191
  | [c, d, e, f] => 240 ≤ c ∧ c ≤ 244 ∧ loB c ≤ d ∧ d ≤ hiB c ∧ 128 ≤ e ∧ e ≤ 191 ∧ 128 ≤ f ∧ f ≤ 191
  | _ => False

theorem low_top (lo t fr : Int) : (low2 (low1 lo fr) ≤ top1 t) ↔ ∃ z, lo ≤ z ∧ fr ≤ z ∧ z ≤ t ∧ z ≤ 1114111 ∧ (55296 ≤ max lo fr ∧ max lo fr ≤ 57343 → 57344 ≤ z) := by
  unfold low2 low1 top1
  constructor
  · intro h
    split at h <;> split at h <;> split at h
    all_goals first | exact ⟨57344, by omega, by omega, by omega, by omega, by omega⟩ | exact ⟨fr, by omega, by omega, by omega, by omega, by omega⟩ | exact ⟨lo, by omega, by omega, by omega, by omega, by omega⟩
  · rintro ⟨z, h1, h2, h3, h4, h5⟩
    split <;> split <;> split <;> omega

theorem goes_pre (b : List Int) (hb : Byt b) : goesM b = true ↔ pre b := by
  match b, hb with
  | [], _ => simp [goesM, pre]
  | [c], hb =>
    have hc := hb c (by simp)
    by_cases a1 : c < 128
    · simp [goesM, pre, lng1 a1, tailsM, num, numGo, digit_some, digit_none, numHead, fromM, low2, low1, top1]
      omega
    by_cases a0 : c < 192 ∨ 248 ≤ c
    · simp [goesM, pre, lng0 (show 128 ≤ c by omega) a0]
      omega
    by_cases a2 : c < 224
    · simp [goesM, pre, lng2 (show 192 ≤ c by omega) a2, tailsM, num, numGo, digit_some, digit_none, numHead, fromM, low2, low1, top1]
      omega
    by_cases a3 : c < 240
    · simp [goesM, pre, lng3 (show 224 ≤ c by omega) a3, tailsM, num, numGo, digit_some, digit_none, numHead, fromM, low2, low1, top1]
      omega
    · simp [goesM, pre, lng4 (show 240 ≤ c by omega) (show c < 248 by omega), tailsM, num, numGo, digit_some, digit_none, numHead, fromM, low2, low1, top1]
      omega
  | [c, d], hb =>
    have hc := hb c (by simp)
    have hd := hb d (by simp)
    have hlo := loB_cases c
    have hhi := hiB_cases c
    by_cases a1 : c < 128
    · simp [goesM, pre, lng1 a1]
      omega
    by_cases a0 : c < 192 ∨ 248 ≤ c
    · simp [goesM, pre, lng0 (show 128 ≤ c by omega) a0]
      omega
    by_cases a2 : c < 224
    · simp [goesM, pre, lng2 (show 192 ≤ c by omega) a2, tailsM, num, numGo, digit_some, digit_none, numHead, fromM, low2, low1, top1]
      omega
    by_cases a3 : c < 240
    · simp [goesM, pre, lng3 (show 224 ≤ c by omega) a3, tailsM, num, numGo, digit_some, digit_none, numHead, fromM, low2, low1, top1]
      omega
    · simp [goesM, pre, lng4 (show 240 ≤ c by omega) (show c < 248 by omega), tailsM, num, numGo, digit_some, digit_none, numHead, fromM, low2, low1, top1]
      omega
  | [c, d, e], hb =>
    have hc := hb c (by simp)
    have hd := hb d (by simp)
    have he := hb e (by simp)
    have hlo := loB_cases c
    have hhi := hiB_cases c
    by_cases a1 : c < 128
    · simp [goesM, pre, lng1 a1]
      omega
    by_cases a0 : c < 192 ∨ 248 ≤ c
    · simp [goesM, pre, lng0 (show 128 ≤ c by omega) a0]
      omega
    by_cases a2 : c < 224
    · simp [goesM, pre, lng2 (show 192 ≤ c by omega) a2]
      omega
    by_cases a3 : c < 240
    · simp [goesM, pre, lng3 (show 224 ≤ c by omega) a3, tailsM, num, numGo, digit_some, digit_none, numHead, fromM, low2, low1, top1]
      omega
    · simp [goesM, pre, lng4 (show 240 ≤ c by omega) (show c < 248 by omega), tailsM, num, numGo, digit_some, digit_none, numHead, fromM, low2, low1, top1]
      omega
  | [c, d, e, f], hb =>
    have hc := hb c (by simp)
    have hd := hb d (by simp)
    have he := hb e (by simp)
    have hf := hb f (by simp)
    have hlo := loB_cases c
    have hhi := hiB_cases c
    by_cases a1 : c < 128
    · simp [goesM, pre, lng1 a1]
      omega
    by_cases a0 : c < 192 ∨ 248 ≤ c
    · simp [goesM, pre, lng0 (show 128 ≤ c by omega) a0]
      omega
    by_cases a2 : c < 224
    · simp [goesM, pre, lng2 (show 192 ≤ c by omega) a2]
      omega
    by_cases a3 : c < 240
    · simp [goesM, pre, lng3 (show 224 ≤ c by omega) a3]
      omega
    · simp [goesM, pre, lng4 (show 240 ≤ c by omega) (show c < 248 by omega), tailsM, num, numGo, digit_some, digit_none, numHead, fromM, low2, low1, top1]
      omega
  | c :: d :: e :: f :: g :: t, _ =>
    simp only [pre, iff_false, goesM, List.length_cons]
    have : lng c ≤ 4 := by unfold lng; (repeat' split) <;> omega
    simp
    omega

theorem first0 {c : Int} {t : List Int} (h : 127 < c) (h' : c < 194 ∨ 244 < c) : firstC (c :: t) = (65533, 1, false) := by simp [firstC, lead0 h h']
theorem first2 {c : Int} {t : List Int} (h : 194 ≤ c) (h' : c ≤ 223) : firstC (c :: t) = go (c :: t) 2 1 1 (c % 32) 128 191 := by
  simp only [firstC, lead2 h h', show ¬ (2 : Int) = 0 by decide, if_false]
  rfl
theorem first3 {c : Int} {t : List Int} (h : 224 ≤ c) (h' : c ≤ 239) : firstC (c :: t) = go (c :: t) 3 2 1 (c % 16) (loB c) (hiB c) := by
  simp only [firstC, lead3 h h', show ¬ (3 : Int) = 0 by decide, if_false]
  rfl
theorem first4 {c : Int} {t : List Int} (h : 240 ≤ c) (h' : c ≤ 244) : firstC (c :: t) = go (c :: t) 4 3 1 (c % 8) (loB c) (hiB c) := by
  simp only [firstC, lead4 h h', show ¬ (4 : Int) = 0 by decide, if_false]
  rfl

/-- one step of the loop, good or bad -/
theorem go_ok {bs : List Int} {s f i : Nat} {r lo hi y : Int} (h : bs[i]? = some y) (h1 : lo ≤ y) (h2 : y ≤ hi) : go bs s (f + 1) i r lo hi = go bs s f (i + 1) (r * 64 + y % 64) 128 191 := by
  conv => lhs; unfold go
  rw [h]
  dsimp only
  rw [if_neg (by omega)]
theorem go_no {bs : List Int} {s f i : Nat} {r lo hi : Int} (h : ∀ y, bs[i]? = some y → ¬ (lo ≤ y ∧ y ≤ hi)) : go bs s (f + 1) i r lo hi = (65533, i, false) := by
  unfold go
  split
  · rfl
  · rename_i y hy
    have := h y hy
    rw [if_pos (by omega)]

theorem take_snoc {bs : List Int} {k : Nat} {y : Int} (h : bs[k]? = some y) : bs.take (k + 1) = bs.take k ++ [y] := by
  have hk := (List.getElem?_eq_some_iff.1 h).1
  rw [List.take_succ_eq_append_getElem hk]
  rw [(List.getElem?_eq_some_iff.1 h).2]

/-- as many bytes as go on, and what they say -/
theorem ref_first {bs : List Int} (hb : Byt bs) (hne : bs ≠ []) {k : Nat} (hk : k ≤ bs.length) (h1 : ∀ p, 1 ≤ p → p ≤ k → goesM (bs.take p) = true) (h2 : ∀ y, bs[k]? = some y → goesM (bs.take k ++ [y]) = false) :
    (0 < k ∧ lng (bs.getD 0 0) = k → firstC bs = (num (bs.take k) k 0, k, true)) ∧ (¬ (0 < k ∧ lng (bs.getD 0 0) = k) → firstC bs = (65533, (if k = 0 then 1 else k), false)) := by
  cases bs with
  | nil => exact absurd rfl hne
  | cons c t =>
    have hc := hb c (by simp)
    have e0 : (c :: t).getD 0 0 = c := rfl
    rw [e0]
    -- the bytes as a prefix
    have hp : ∀ p, 1 ≤ p → p ≤ k → pre ((c :: t).take p) := fun p a b => (goes_pre _ (hb.take p)).1 (h1 p a b)
    have hn : ∀ y, (c :: t)[k]? = some y → ¬ pre ((c :: t).take k ++ [y]) := fun y hy hpr => by
      have hby : Byt ((c :: t).take k ++ [y]) := by
        rw [← take_snoc hy]; exact hb.take _
      have := (goes_pre _ hby).2 hpr
      rw [h2 y hy] at this
      cases this
    have hk4 : k ≤ 4 := by
      rcases Nat.lt_or_ge 4 k with h5 | h5
      · exfalso
        have hx := hp 5 (by omega) (by omega)
        match t, hk with
        | d :: e :: f :: g :: u, _ => simp [pre] at hx
        | [_, _, _], h => simp at h; omega
        | [_, _], h => simp at h; omega
        | [_], h => simp at h; omega
        | [], h => simp at h; omega
      · exact h5
    have hlo := loB_cases c
    have hhi := hiB_cases c
    have hks : k = 0 ∨ k = 1 ∨ k = 2 ∨ k = 3 ∨ k = 4 := by omega
    rcases hks with rfl | rfl | rfl | rfl | rfl
    · -- none
      have hx := hn c rfl
      simp [pre] at hx
      exact ⟨fun h => by omega, fun _ => by rw [first0 (by omega) (by omega)]; rfl⟩
    · have hx := hp 1 (by omega) (by omega)
      simp [pre] at hx
      by_cases a1 : c ≤ 127
      · refine ⟨fun _ => ?_, fun h => absurd ⟨by omega, lng1 (show c < 128 by omega)⟩ h⟩
        simp [firstC, lead1 a1, go, num, numGo, numHead]
      · have hq : ∀ y, (c :: t)[1]? = some y → ¬ pre [c, y] := fun y hy => hn y hy
        by_cases a2 : c ≤ 223
        · refine ⟨fun h => by rw [lng2 (by omega) (by omega)] at h; omega, fun _ => ?_⟩
          rw [first2 (by omega) a2, go_no (fun y hy => ?_)]
          · rfl
          · have := hq y hy
            simp [pre] at this
            omega
        by_cases a3 : c ≤ 239
        · refine ⟨fun h => by rw [lng3 (by omega) (by omega)] at h; omega, fun _ => ?_⟩
          rw [first3 (by omega) a3, go_no (fun y hy => ?_)]
          · rfl
          · have := hq y hy
            simp [pre] at this
            omega
        · refine ⟨fun h => by rw [lng4 (by omega) (by omega)] at h; omega, fun _ => ?_⟩
          rw [first4 (by omega) (by omega), go_no (fun y hy => ?_)]
          · rfl
          · have := hq y hy
            simp [pre] at this
            omega
    · cases t with
      | nil => simp at hk
      | cons d u =>
        have hd := hb d (by simp)
        have hx := hp 2 (by omega) (by omega)
        simp [pre] at hx
        by_cases a2 : c ≤ 223
        · refine ⟨fun _ => ?_, fun h => absurd ⟨by omega, lng2 (show 192 ≤ c by omega) (by omega)⟩ h⟩
          rw [first2 (by omega) a2, go_ok (y := d) rfl (by omega) (by omega)]
          simp [go, num, numGo, digit_some, numHead]
          omega
        · have hq : ∀ y, (c :: d :: u)[2]? = some y → ¬ pre [c, d, y] := fun y hy => hn y hy
          by_cases a3 : c ≤ 239
          · refine ⟨fun h => by rw [lng3 (by omega) (by omega)] at h; omega, fun _ => ?_⟩
            rw [first3 (by omega) a3, go_ok (y := d) rfl (by omega) (by omega), go_no (fun y hy => ?_)]
            · rfl
            · have := hq y hy
              simp [pre] at this
              omega
          · refine ⟨fun h => by rw [lng4 (by omega) (by omega)] at h; omega, fun _ => ?_⟩
            rw [first4 (by omega) (by omega), go_ok (y := d) rfl (by omega) (by omega), go_no (fun y hy => ?_)]
            · rfl
            · have := hq y hy
              simp [pre] at this
              omega
    · match t, hk with
      | [], h => simp at h
      | [_], h => simp at h
      | d :: e :: u, _ =>
        have hd := hb d (by simp)
        have he := hb e (by simp)
        have hx := hp 3 (by omega) (by omega)
        simp [pre] at hx
        by_cases a3 : c ≤ 239
        · refine ⟨fun _ => ?_, fun h => absurd ⟨by omega, lng3 (show 224 ≤ c by omega) (by omega)⟩ h⟩
          rw [first3 (by omega) a3, go_ok (y := d) rfl (by omega) (by omega), go_ok (y := e) rfl (by omega) (by omega)]
          simp [go, num, numGo, digit_some, numHead]
          omega
        · have hq : ∀ y, (c :: d :: e :: u)[3]? = some y → ¬ pre [c, d, e, y] := fun y hy => hn y hy
          refine ⟨fun h => by rw [lng4 (by omega) (by omega)] at h; omega, fun _ => ?_⟩
          rw [first4 (by omega) (by omega), go_ok (y := d) rfl (by omega) (by omega), go_ok (y := e) rfl (by omega) (by omega), go_no (fun y hy => ?_)]
          · rfl
          · have := hq y hy
            simp [pre] at this
            omega
    · match t, hk with
      | [], h => simp at h
      | [_], h => simp at h
      | [_, _], h => simp at h
      | d :: e :: f :: u, _ =>
        have hd := hb d (by simp)
        have he := hb e (by simp)
        have hf := hb f (by simp)
        have hx := hp 4 (by omega) (by omega)
        simp [pre] at hx
        refine ⟨fun _ => ?_, fun h => absurd ⟨by omega, lng4 (show 240 ≤ c by omega) (by omega)⟩ h⟩
        rw [first4 (by omega) (by omega), go_ok (y := d) rfl (by omega) (by omega), go_ok (y := e) rfl (by omega) (by omega), go_ok (y := f) rfl (by omega) (by omega)]
        simp [go, num, numGo, digit_some, numHead]
        omega

end Go.Proofs.Ytignohjphblpdaa.Utf
