/-
  The general sort: order2, median, medianAdjacent, choosePivot at []rune: which pivot they choose is not told, but that it lies in the range.
-/
import Derived.Test.YtcdjjodiiaahfaaSortE
import Derived.RangeFuncBox
namespace Go.Proofs.Ytcdjjodiiaahfaa
open Go.RowKit Puny Go.Shelf Go.Sort

/-- the row stands as it was; only the box s may have turned, and it still holds a number -/
def PW (base g cap s : Nat) (d : Array Nat) (w w' : World) : Prop := OW base g cap d w' ∧ w.grownBy w' (some s) ∧ ∃ k : Int, Boxed w' s 3 (.int .i64 k)
def Two (base g cap s lo hi : Nat) (d : Array Nat) (w : World) (e : Ending) (w' : World) : Prop :=
  ∃ x y : Nat, lo ≤ x ∧ x < hi ∧ lo ≤ y ∧ y < hi ∧ e = .returned (.tuple #[.int .i64 x, .int .i64 y]) ∧ PW base g cap s d w w'
def One1 (base g cap s lo hi : Nat) (d : Array Nat) (w : World) (e : Ending) (w' : World) : Prop :=
  ∃ x : Nat, lo ≤ x ∧ x < hi ∧ e = .returned (.int .i64 x) ∧ PW base g cap s d w w'

theorem PW.trans {base g cap s : Nat} {d : Array Nat} {w w1 w2 : World} (h : PW base g cap s d w w1) (k : PW base g cap s d w1 w2) : PW base g cap s d w w2 := ⟨k.1, World.grownBy.trans h.2.1 k.2.1, k.2.2⟩
theorem box_not_row {base g cap s : Nat} {d : Array Nat} {w : World} {v : Value} (h : Boxed w s 3 v) (hw : OW base g cap d w) : g ≠ s := by
  have := Boxed.not_row h (by decide) hw
  intro e
  exact this (by rw [e]; rfl)

set_option maxRecDepth 100000 in
theorem order2_any (base g cap s lo hi a b : Nat) (d : Array Nat) (w : World) (hw : OW base g cap d w) (hs : ∃ k : Int, Boxed w s 3 (.int .i64 k)) (ha : lo ≤ a ∧ a < hi) (hb : lo ≤ b ∧ b < hi) (hd : hi ≤ d.size) :
    Calls Try.prog 85 #[.slice (some ⟨g, 0, none⟩) d.size cap, .int .i64 a, .int .i64 b, .pointer (some ⟨s, 0, none⟩)] w (Two base g cap s lo hi d w) := by
  obtain ⟨k, hs⟩ := hs
  have c1 := hw.cell (i := a) (by omega)
  have c2 := hw.cell (i := b) (by omega)
  have f1 := hw.frozen a
  have f2 := hw.frozen b
  have b1 : (a : Int) < (d.size : Int) := by omega
  have b2 : (b : Int) < (d.size : Int) := by omega
  have n1 : (0 : Int) ≤ (a : Int) := by omega
  have n2 : (0 : Int) ≤ (b : Int) := by omega
  go_enter Try.func85, Try.ntmps85
  cases hl : ltN d[b]! d[a]! with
  | true =>
    have HLT := Lib.hid hl
    clear hl
    go_wp2
    go_quiet ((go_at_call 73; exact Calls.quiet_of_same (lessN HLT.out _)))
    have hw2 : OW base g cap d (w.drewN nq) := (SW.refl hw |>.drewN nq).1
    have hs2 : Boxed (w.drewN nq) s 3 (.int .i64 k) := hs
    have hg2 : w.grownBy (w.drewN nq) (some s) := ⟨rfl, rfl, rfl, Nat.le_refl _, fun _ _ _ => rfl⟩
    clear c1 c2 f1 f2 hw hs
    generalize w.drewN nq = w2 at hw2 hs2 hg2 ⊢
    have hsc := hs2.cell
    have hsf := hs2.frozen
    go_wp2
    go_ret2
    exact ⟨b, a, hb.1, hb.2, ha.1, ha.2, rfl, hw2.kept (grownBy_setCell' _ _ _) (.inr fun e => box_not_row hs2 hw2 (by simpa [Value.ownBlock] using e)), World.grownBy.trans hg2 (grownBy_setCell' _ _ _), _, hs2.set _⟩
  | false =>
    have HLT := Lib.hid hl
    clear hl
    go_wp2
    go_quiet ((go_at_call 73; exact Calls.quiet_of_same (lessN HLT.out _)))
    go_wp2
    go_ret2
    exact ⟨a, b, ha.1, ha.2, hb.1, hb.2, rfl, (SW.refl hw |>.drewN nq).1, ⟨rfl, rfl, rfl, Nat.le_refl _, fun _ _ _ => rfl⟩, k, hs⟩

set_option maxRecDepth 100000 in
theorem median_any (base g cap s lo hi a b c : Nat) (d : Array Nat) (w : World) (hw : OW base g cap d w) (hs : ∃ k : Int, Boxed w s 3 (.int .i64 k)) (ha : lo ≤ a ∧ a < hi) (hb : lo ≤ b ∧ b < hi) (hc : lo ≤ c ∧ c < hi) (hd : hi ≤ d.size) :
    Calls Try.prog 83 #[.slice (some ⟨g, 0, none⟩) d.size cap, .int .i64 a, .int .i64 b, .int .i64 c, .pointer (some ⟨s, 0, none⟩)] w (One1 base g cap s lo hi d w) := by
  go_enter Try.func83, Try.ntmps83
  go_wp2_with fail
  refine (order2_any base g cap s lo hi a b d w hw hs ha hb hd).mono ?_
  rintro e w1 ⟨x, y, hx1, hx2, hy1, hy2, rfl, h1⟩
  go_wp2_with fail
  refine (order2_any base g cap s lo hi y c d w1 h1.1 h1.2.2 ⟨hy1, hy2⟩ hc hd).mono ?_
  rintro e w2 ⟨y2, z, hy21, hy22, hz1, hz2, rfl, h2⟩
  go_wp2_with fail
  refine (order2_any base g cap s lo hi x y2 d w2 h2.1 h2.2.2 ⟨hx1, hx2⟩ ⟨hy21, hy22⟩ hd).mono ?_
  rintro e w3 ⟨x3, y3, _, _, hy31, hy32, rfl, h3⟩
  go_wp2
  go_ret
  exact ⟨y3, hy31, hy32, rfl, (h1.trans h2).trans h3⟩

set_option maxRecDepth 100000 in
theorem medianAdjacent_any (base g cap s lo hi a : Nat) (d : Array Nat) (w : World) (hw : OW base g cap d w) (hs : ∃ k : Int, Boxed w s 3 (.int .i64 k)) (ha : lo < a ∧ a + 1 < hi) (hd : hi ≤ d.size) (hsz : d.size ≤ 1000000) :
    Calls Try.prog 82 #[.slice (some ⟨g, 0, none⟩) d.size cap, .int .i64 a, .pointer (some ⟨s, 0, none⟩)] w (One1 base g cap s lo hi d w) := by
  obtain ⟨a, rfl⟩ : ∃ a', a = a' + 1 := ⟨a - 1, by omega⟩
  have hm := median_any base g cap s lo hi a (a + 1) (a + 2) d w hw hs ⟨by omega, by omega⟩ ⟨by omega, by omega⟩ ⟨by omega, by omega⟩ hd
  have e1 : (((a + 1 : Nat) : Nat) : Int) = (a : Int) + 1 := by omega
  have e2 : (((a + 2 : Nat) : Nat) : Int) = (a : Int) + 1 + 1 := by omega
  rw [e1, e2] at hm
  rw [e1]
  have HM := Lib.hid hm
  clear hm e1 e2
  have w1 : IntKind.i64.wrap (a : Int) = (a : Int) := IntWalk.i64_in _ (by omega)
  have w2 : IntKind.i64.wrap ((a : Int) + 1) = (a : Int) + 1 := IntWalk.i64_in _ (by omega)
  have w3 : IntKind.i64.wrap ((a : Int) + 1 + 1) = (a : Int) + 1 + 1 := IntWalk.i64_in _ (by omega)
  have w4 : IntKind.i64.wrap ((a : Int) + 1 - 1) = (a : Int) := by rw [Int.add_sub_cancel]; exact w1
  go_enter Try.func82, Try.ntmps82
  go_wp2_with fail
  refine HM.out.mono ?_
  rintro e w3 ⟨x3, h1, h2, rfl, h3⟩
  go_wp2
  go_ret
  exact ⟨x3, h1, h2, rfl, h3⟩

theorem grown_new {w w1 w2 : World} {s : Nat} {row : Option Nat} (h1 : w.grownBy w1 none) (h2 : w1.grownBy w2 (some s)) (hs : w.heap.size ≤ s) : w.grownBy w2 row :=
  ⟨h2.os.trans h1.os, h2.tape.trans h1.tape, h2.output.trans h1.output, Nat.le_trans h1.size h2.size, fun k hk _ => (h2.block k (Nat.lt_of_lt_of_le hk h1.size) (fun e => by cases e; omega)).trans (h1.block k hk (by simp))⟩

def Piv (base g cap a b : Nat) (d : Array Nat) (w : World) (e : Ending) (w' : World) : Prop :=
  ∃ (p : Nat) (h : Int), a ≤ p ∧ p < b ∧ e = .returned (.tuple #[.int .i64 p, .int .i64 h]) ∧ SW base g cap w d w'

set_option maxRecDepth 100000 in
set_option maxHeartbeats 2000000 in
theorem choosePivot_any (base g cap a b : Nat) (d : Array Nat) (w : World) (hw : OW base g cap d w) (hab : a + 12 < b) (hd : b ≤ d.size) (hsz : d.size ≤ 1000000) :
    Calls Try.prog 70 #[.slice (some ⟨g, 0, none⟩) d.size cap, .int .i64 a, .int .i64 b] w (Piv base g cap a b d w) := by
  go_enter Try.func70, Try.ntmps70
  go_upto_region 1 with fail
  go_cut [8] from 13 (fun s8 wx => ∃ l : Nat, s8 = .int .i64 (l : Int) ∧ l + a = b ∧ wx = w)
  case first =>
    go_wp2_with fail
    go_meet
    exact ⟨b - a, by go_num, by omega, rfl⟩
  case rest =>
    obtain ⟨l, rfl, hl, hwc⟩ := hcut
    rw [hwc]
    clear hwc
    have hq : ((l : Int)).tdiv 4 = ((l / 4 : Nat) : Int) := by rw [Int.tdiv_eq_ediv_of_nonneg (by omega)]; omega
    obtain ⟨q, hq2⟩ : ∃ q, l / 4 = q := ⟨_, rfl⟩
    rw [hq2] at hq
    have hq3 : 3 ≤ q ∧ 4 * q ≤ l := by omega
    have HQ := Lib.hid hq2
    clear hq2
    have w1 : IntKind.i64.wrap (q : Int) = (q : Int) := IntWalk.i64_in _ (by omega)
    go_upto_region 5 with fail
    go_cut [10, 11, 12] from 13 (fun s10 s11 s12 wx => ∃ i j k : Nat, s10 = .int .i64 (i : Int) ∧ s11 = .int .i64 (j : Int) ∧ s12 = .int .i64 (k : Int) ∧ a < i ∧ i + 1 < b ∧ a < j ∧ j + 1 < b ∧ a < k ∧ k + 1 < b ∧ OW base g cap d wx ∧ Boxed wx w.heap.size 3 (.int .i64 0) ∧ w.grownBy wx none)
    case first =>
      go_wp2_with fail
      go_meet
      exact ⟨a + q, a + q * 2, a + q * 3, by go_num, by go_num, by go_num, by omega, by omega, by omega, by omega, by omega, by omega, hw.kept (World.grownBy_alloc _ _ none) (.inr (by simp [Value.ownBlock])), Boxed.new _ _ _, World.grownBy_alloc _ _ _⟩
    case rest =>
      obtain ⟨i, j, k, rfl, rfl, rfl, hi1, hi2, hj1, hj2, hk1, hk2, hW, hBx, hG⟩ := hcut
      clear hq HQ w1 hw hq3
      have h8 : (8 : Int) ≤ (l : Int) := by omega
      have hfin : ∀ (p : Nat) (w' : World), a ≤ p → p < b → PW base g cap w.heap.size d wc w' → ∀ h : Int, Piv base g cap a b d w (.returned (.tuple #[.int .i64 p, .int .i64 h])) w' := fun p w' h1 h2 h3 h => ⟨p, h, h1, h2, rfl, h3.1, grown_new hG h3.2.1 (Nat.le_refl _)⟩
      have HFIN := Lib.hid hfin
      clear hfin
      by_cases h50 : 50 ≤ l
      · have h50z : (50 : Int) ≤ (l : Int) := by omega
        go_wp2_with fail
        refine (medianAdjacent_any base g cap w.heap.size a b i d wc hW ⟨_, hBx⟩ ⟨hi1, hi2⟩ hd hsz).mono ?_
        rintro e w1 ⟨i2, hi1, hi2, rfl, h1⟩
        go_wp2_with fail
        refine (medianAdjacent_any base g cap w.heap.size a b j d w1 h1.1 h1.2.2 ⟨hj1, hj2⟩ hd hsz).mono ?_
        rintro e w2 ⟨j2, hj1, hj2, rfl, h2⟩
        replace h1 := h1.trans h2
        clear h2
        go_wp2_with fail
        refine (medianAdjacent_any base g cap w.heap.size a b k d w2 h1.1 h1.2.2 ⟨hk1, hk2⟩ hd hsz).mono ?_
        rintro e w3 ⟨k2, hk1, hk2, rfl, h2⟩
        replace h1 := h1.trans h2
        clear h2
        go_wp2_with fail
        refine (median_any base g cap w.heap.size a b i2 j2 k2 d w3 h1.1 h1.2.2 ⟨hi1, hi2⟩ ⟨hj1, hj2⟩ ⟨hk1, hk2⟩ hd).mono ?_
        rintro e w4 ⟨p, hp1, hp2, rfl, h2⟩
        replace h1 := h1.trans h2
        clear h2
        obtain ⟨K, hK⟩ := h1.2.2
        have hKc := hK.cell
        cases e0 : (K == 0) <;> cases e12 : (K == 12)
        all_goals
          go_wp2
          go_ret2
          exact HFIN.out p w4 hp1 hp2 h1 _
      · have h50z : ¬ (50 : Int) ≤ (l : Int) := by omega
        have h50y : (l : Int) < 50 := by omega
        go_wp2_with fail
        refine (median_any base g cap w.heap.size a b i j k d wc hW ⟨_, hBx⟩ ⟨by omega, by omega⟩ ⟨by omega, by omega⟩ ⟨by omega, by omega⟩ hd).mono ?_
        rintro e w4 ⟨p, hp1, hp2, rfl, h1⟩
        obtain ⟨K, hK⟩ := h1.2.2
        have hKc := hK.cell
        cases e0 : (K == 0) <;> cases e12 : (K == 12)
        all_goals
          go_wp2
          go_ret2
          exact HFIN.out p w4 hp1 hp2 h1 _
end Go.Proofs.Ytcdjjodiiaahfaa
