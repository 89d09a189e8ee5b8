/-
  The general sort: breakPatterns at []rune: it only exchanges.
-/
import Derived.Test.YtcdjjodiiaahfaaSortG
import Derived.Test.YtcdjjodiiaahfaaBits
namespace Go.Proofs.Ytcdjjodiiaahfaa
open Go.RowKit Puny Go.Shelf Go.Sort

def okT (T : ByteArray) : Bool := decide (T.size = 256) && (List.range 256).all fun i => decide (i = 0 ∨ (T.get! i).toNat ≤ 8 ∧ 2 ^ (T.get! i).toNat ≤ 2 * i)
theorem okT_at {T : ByteArray} (h : okT T = true) {i : Nat} (h1 : 1 ≤ i) (h2 : i < 256) (hy : i < T.size) : (T[i]'hy).toNat ≤ 8 ∧ 2 ^ (T[i]'hy).toNat ≤ 2 * i := by
  unfold okT at h
  rw [Bool.and_eq_true, List.all_eq_true] at h
  have h3 := h.2 i (List.mem_range.2 h2)
  rw [decide_eq_true_eq] at h3
  have e : T.get! i = T[i]'hy := by
    show T.data[i]! = _
    rw [getElem!_pos T.data i hy]
    rfl
  rw [e] at h3
  rcases h3 with h3 | h3
  · omega
  · exact h3
def Len64Is (x : Int) (w : World) (e : Ending) (w' : World) : Prop := ∃ r : Nat, r ≤ 16 ∧ ((2 ^ r : Nat) : Int) ≤ 2 * x ∧ e = .returned (.int .i64 (r : Int)) ∧ w = w'
theorem len_lo {T : ByteArray} {x : Int} {w : World} {hy : x.toNat < T.size} (hT : okT T = true) (h1 : 1 ≤ x) (h2 : x < 256) : Len64Is x w (.returned (.int .i64 (wrap64 (wrap64 ((T[x.toNat]'hy).toNat : Int))))) w := by
  obtain ⟨a, b⟩ := okT_at hT (i := x.toNat) (by omega) (by omega) hy
  generalize (T[x.toNat]'hy).toNat = r at a b ⊢
  refine ⟨r, by omega, by omega, ?_, rfl⟩
  congr 2
  unfold wrap64; omega
theorem len_hi {T : ByteArray} {x : Int} {w : World} {hy : (x / 256).toNat < T.size} (hT : okT T = true) (h1 : 256 ≤ x) (h2 : x ≤ 60000) : Len64Is x w (.returned (.int .i64 (wrap64 (8 + wrap64 ((T[(x / 256).toNat]'hy).toNat : Int))))) w := by
  obtain ⟨a, b⟩ := okT_at hT (i := (x / 256).toNat) (by omega) (by omega) hy
  generalize (T[(x / 256).toNat]'hy).toNat = r at a b ⊢
  have e : (2 : Nat) ^ (8 + r) = 256 * 2 ^ r := by rw [Nat.pow_add]
  refine ⟨8 + r, by omega, by rw [e]; omega, ?_, rfl⟩
  congr 2
  unfold wrap64; omega

set_option maxRecDepth 100000 in
set_option maxHeartbeats 2000000 in
theorem Len64_pow (x : Int) (w : World) (h0 : 1 ≤ x) (h1 : x ≤ 60000) : Calls Try.prog 77 #[.int .u64 x] w (Len64Is x w) := by
  go_enter Try.func77, Try.ntmps77
  go_wp2
  all_goals
    go_ret
    first
    | exact len_hi (by decide +kernel) (by omega) (by omega)
    | exact len_lo (by decide +kernel) (by omega) (by omega)
theorem Len_pow (x : Int) (w : World) (h0 : 1 ≤ x) (h1 : x ≤ 60000) : Calls Try.prog 64 #[.int .u64 x] w (Len64Is x w) := by
  go_enter Try.func64, Try.ntmps64
  go_wp2_with (first | (go_at_call 77; refine (Len64_pow _ _ h0 h1).mono ?_; rintro e w' ⟨r, h2, h3, rfl, rfl⟩) | fail)
  go_ret
  exact ⟨r, h2, h3, rfl, rfl⟩

def Pow2 (x : Int) (w : World) (e : Ending) (w' : World) : Prop := ∃ m : Nat, ((m + 1 : Nat) : Int) ≤ 2 * x ∧ e = .returned (.int .u64 ((m + 1 : Nat) : Int)) ∧ w = w'
set_option maxRecDepth 100000 in
theorem nextPow_any (x : Int) (w : World) (h0 : 1 ≤ x) (h1 : x ≤ 60000) : Calls Try.prog 80 #[.int .i64 x] w (Pow2 x w) := by
  go_enter Try.func80, Try.ntmps80
  go_wp2_with fail
  refine (Len_pow x w h0 h1).mono ?_
  rintro e w' ⟨r, h2, h3, rfl, rfl⟩
  have hp : 0 < (2 : Nat) ^ r := Nat.two_pow_pos r
  obtain ⟨m, hm⟩ : ∃ m, (2 : Nat) ^ r = m + 1 := ⟨2 ^ r - 1, by omega⟩
  have h16 : (2 : Nat) ^ r ≤ 2 ^ 16 := Nat.pow_le_pow_right (by omega) h2
  have hz : (2 : Int) ^ r = ((m + 1 : Nat) : Int) := by rw [← hm, Int.natCast_pow]; rfl
  have hzw : IntKind.u64.wrap ((2 : Int) ^ r) = ((m + 1 : Nat) : Int) := by
    rw [hz]
    simp only [IntKind.wrap, IntKind.bits, IntKind.signed]
    simp
    omega
  go_wp2
  go_ret
  exact ⟨m, by rw [← hm]; exact h3, by go_num, rfl⟩

theorem gdrew {w w' : World} {row : Option Nat} (h : w.grownBy w' row) : w.grownBy w'.drew row := ⟨h.os, h.tape, h.output, h.size, h.block⟩
def Drawn (s : Nat) (w : World) (e : Ending) (w' : World) : Prop := ∃ v : Int, e = .returned (.int .u64 v) ∧ w.grownBy w' (some s) ∧ ∃ X : Int, Boxed w' s 114 (.int .u64 X)
set_option maxRecDepth 100000 in
set_option maxHeartbeats 2000000 in
theorem Next_any (s : Nat) (w : World) (hs : ∃ X : Int, Boxed w s 114 (.int .u64 X)) : Calls Try.prog 81 #[.pointer (some ⟨s, 0, none⟩)] w (Drawn s w) := by
  obtain ⟨X, hs⟩ := hs
  go_enter Try.func81, Try.ntmps81
  go_upto_region 1 with fail
  go_cut [] from 3 (fun wx => ∃ X : Int, Boxed wx s 114 (.int .u64 X) ∧ w.grownBy wx (some s))
  case first =>
    have hsc := hs.cell
    have hsf := hs.frozen
    go_region
    go_wp2
    go_meet
    exact ⟨_, hs.set _, gdrew (grownBy_setCell' _ _ _)⟩
  case rest =>
    clear hs X
    obtain ⟨X, hs, hg⟩ := hcut
    go_upto_region 2 with fail
    go_cut [] from 3 (fun wx => ∃ X : Int, Boxed wx s 114 (.int .u64 X) ∧ w.grownBy wx (some s))
    case first =>
      have hsc := hs.cell
      have hsf := hs.frozen
      go_region
      go_wp2
      go_meet
      exact ⟨_, hs.set _, World.grownBy.trans hg (gdrew (grownBy_setCell' _ _ _))⟩
    case rest =>
      clear hs hg X
      obtain ⟨X, hs, hg⟩ := hcut
      go_upto_region 3 with fail
      go_cut [] from 3 (fun wx => ∃ X : Int, Boxed wx s 114 (.int .u64 X) ∧ w.grownBy wx (some s))
      case first =>
        have hsc := hs.cell
        have hsf := hs.frozen
        go_region
        go_wp2
        go_meet
        exact ⟨_, hs.set _, World.grownBy.trans hg (gdrew (grownBy_setCell' _ _ _))⟩
      case rest =>
        clear hs hg X
        obtain ⟨X, hs, hg⟩ := hcut
        have hsc := hs.cell
        have hsf := hs.frozen
        go_wp2
        go_ret
        exact ⟨X, rfl, hg, X, hs⟩

theorem grownBy_setCell'' (W : World) (p : Addr) (v : Value) : W.grownBy (W.setCell p v) (some p.block) :=
  ⟨rfl, rfl, rfl, (KeepsWalks.setCell W _ v).size, fun k _ hk => Below.heap_setCell _ _ _ k (fun e => hk (by rw [e]))⟩
theorem box_two {W : World} {B g i j : Nat} {t : TypeId} {v u1 u2 : Value} (h : Boxed W B t v) (hne : B ≠ g) : Boxed ((W.setCell ⟨g, i, none⟩ u1).setCell ⟨g, j, none⟩ u2).drew B t v :=
  (h.kept (grownBy_setCell'' W ⟨g, i, none⟩ u1) (fun e => hne (Option.some.inj e))).kept (gdrew (grownBy_setCell'' _ ⟨g, j, none⟩ u2)) (fun e => hne (Option.some.inj e))
theorem u64_and_le (v : Int) (m : Nat) (hm : m < 1000000) : ∃ o : Nat, o ≤ m ∧ bits .and .u64 v (m : Int) = (o : Int) := by
  refine ⟨(BitVec.ofInt 64 v &&& BitVec.ofInt 64 (m : Int)).toNat, ?_, ?_⟩
  · rw [BitVec.toNat_and, BitVec.ofInt_natCast, BitVec.toNat_ofNat, Nat.mod_eq_of_lt (by omega)]
    exact Nat.and_le_right
  · show IntKind.u64.wrap ((BitVec.ofInt 64 v &&& BitVec.ofInt 64 (m : Int)).toNat : Int) = _
    have : (BitVec.ofInt 64 v &&& BitVec.ofInt 64 (m : Int)).toNat < 2 ^ 64 := BitVec.isLt _
    generalize (BitVec.ofInt 64 v &&& BitVec.ofInt 64 (m : Int)).toNat = o at this ⊢
    simp only [IntKind.wrap, IntKind.bits, IntKind.signed]
    simp
    omega

set_option maxRecDepth 100000 in
set_option maxHeartbeats 4000000 in
theorem breakPatterns_any (base g cap a b : Nat) (d : Array Nat) (w : World) (hw : OW base g cap d w) (hab : a + 12 < b) (hd : b ≤ d.size) (hsz : d.size ≤ 60000) :
    Calls Try.prog 69 #[.slice (some ⟨g, 0, none⟩) d.size cap, .int .i64 a, .int .i64 b] w (Sorts base g cap (fun d' => PermIn a b d d') w) := by
  go_enter Try.func69, Try.ntmps69
  go_upto_region 0 with fail
  go_cut [6] from 11 (fun s6 wx => ∃ l : Nat, s6 = .int .i64 (l : Int) ∧ l + a = b ∧ wx = w)
  case first =>
    go_wp2_with fail
    go_meet
    exact ⟨b - a, by go_num, by omega, rfl⟩
  case rest =>
    obtain ⟨l, rfl, hl, hwc⟩ := hcut
    rw [hwc]
    clear hwc
    have hq : ((l : Int)).tdiv 4 = ((l / 4 : Nat) : Int) := by rw [Int.tdiv_eq_ediv_of_nonneg (by omega)]; omega
    obtain ⟨q, hq2⟩ : ∃ q, l / 4 = q := ⟨_, rfl⟩
    rw [hq2] at hq
    have hq3 : 3 ≤ q ∧ 4 * q ≤ l := by omega
    have HQ := Lib.hid hq2
    clear hq2
    have h8 : (8 : Int) ≤ (l : Int) := by omega
    have w1 : IntKind.i64.wrap (q : Int) = (q : Int) := IntWalk.i64_in _ (by omega)
    go_wp2_with fail
    refine (nextPow_any (l : Int) _ (by omega) (by omega)).mono ?_
    rintro e w2 ⟨M, hM, rfl, rfl⟩
    have hB0 : Boxed (w.alloc (.cells #[.int .u64 (l : Int)] 114)) w.heap.size 114 (.int .u64 (l : Int)) := Boxed.new _ _ _
    have hG0 : w.grownBy (w.alloc (.cells #[.int .u64 (l : Int)] 114)) none := World.grownBy_alloc _ _ _
    have hW0 : OW base g cap d (w.alloc (.cells #[.int .u64 (l : Int)] 114)) := hw.kept (World.grownBy_alloc _ _ none) (.inr (by simp [Value.ownBlock]))
    have hgs : g < w.heap.size := (hw.lt).2
    go_upto_region 4 with fail
    go_cut [9] from 11 (fun s9 wx => ∃ i : Nat, s9 = .int .i64 (i : Int) ∧ i + 1 = a + q * 2 ∧ wx = w.alloc (.cells #[.int .u64 (l : Int)] 114))
    case first =>
      go_wp2_with fail
      go_meet
      exact ⟨a + q * 2 - 1, by go_num, by omega, rfl⟩
    case rest =>
      obtain ⟨i0, rfl, hi0, hwc⟩ := hcut
      rw [hwc]
      clear hwc
      go_wp2
      go_loopg [9] 3 (fun k s9 wr => ∃ (i : Nat) (dk : Array Nat), s9 = .int .i64 (i : Int) ∧ i + k = a + q * 2 + 2 ∧ k ≤ 3 ∧ Hid (dk.size = d.size) ∧ Hid (PermIn a b d dk) ∧ SW base g cap w dk wr ∧ ∃ X : Int, Boxed wr w.heap.size 114 (.int .u64 X))
      case atStart => exact ⟨i0, d, rfl, by omega, Nat.le_refl _, Lib.hid rfl, Lib.hid (permIn_refl d a b), ⟨hW0, ⟨hG0.os, hG0.tape, hG0.output, hG0.size, fun k hk _ => hG0.block k hk (by simp)⟩⟩, _, hB0⟩
      case round =>
        clear hW0 hG0 hB0
        obtain ⟨i, dk, rfl, hik, hk3, HDk, HP, hS, hX⟩ := hrel
        have w2 : IntKind.i64.wrap ((q : Int) * 2) = (q : Int) * 2 := IntWalk.i64_in _ (by omega)
        rcases gk with _ | k
        · have hdn : ¬ (i : Int) ≤ (a : Int) + (q : Int) * 2 + 1 := by omega
          have hdm : (a : Int) + (q : Int) * 2 + 1 < (i : Int) := by omega
          go_wp2
          go_end0
          exact ⟨rfl, dk, HP.out, hS⟩
        · have hdn : (i : Int) ≤ (a : Int) + (q : Int) * 2 + 1 := by omega
          have hia : a ≤ i := by omega
          have hib : i < b := by omega
          go_upto_region 7 with fail
          go_cut [10] from 26 to 64 (fun s10 wx => ∃ o : Nat, s10 = .int .i64 (o : Int) ∧ o < 2 * l ∧ SW base g cap w dk wx ∧ ∃ X : Int, Boxed wx w.heap.size 114 (.int .u64 X))
          case first =>
            go_wp2_with fail
            refine (Next_any w.heap.size wr hX).mono ?_
            rintro e w3 ⟨v, rfl, hG, hX2⟩
            obtain ⟨o, ho, hov⟩ := u64_and_le v M (by omega)
            have wM : IntKind.u64.wrap (M : Int) = (M : Int) := by simp only [IntKind.wrap, IntKind.bits, IntKind.signed]; simp; omega
            have wo : IntKind.i64.wrap (o : Int) = (o : Int) := IntWalk.i64_in _ (by omega)
            go_wp2
            go_meet
            refine ⟨o, by first | rfl | go_num, by omega, ⟨hS.1.kept hG (.inr (by simp [Value.ownBlock]; omega)), ?_⟩, hX2⟩
            exact ⟨hG.os.trans hS.2.os, hG.tape.trans hS.2.tape, hG.output.trans hS.2.output, Nat.le_trans hS.2.size hG.size, fun j hj hne => (hG.block j (Nat.lt_of_lt_of_le hj hS.2.size) (fun e => by cases e; omega)).trans (hS.2.block j hj hne)⟩
          case rest =>
            clear hS hX
            obtain ⟨o, rfl, ho, hS, hX⟩ := hcut
            go_upto_region 8 with fail
            go_upto_if 43 with fail
            go_cut [10] from 26 to 64 (fun s10 wx => ∃ o : Nat, s10 = .int .i64 (o : Int) ∧ o < l ∧ wx = wc)
            case first =>
              by_cases hol : l ≤ o
              · have holz : (l : Int) ≤ (o : Int) := by omega
                go_wp2_with fail
                go_meet
                exact ⟨o - l, by go_num, by omega, rfl⟩
              · have holz : ¬ (l : Int) ≤ (o : Int) := by omega
                have holy : (o : Int) < (l : Int) := by omega
                go_wp2_with fail
                go_meet
                exact ⟨o, rfl, by omega, rfl⟩
            case rest =>
              clear ho
              obtain ⟨o, rfl, ho, hwc⟩ := hcut
              rw [hwc]
              clear hwc
              have wo : IntKind.i64.wrap ((a : Int) + (o : Int)) = (a : Int) + (o : Int) := IntWalk.i64_in _ (by omega)
              have hx : ∃ x, dk[i]! = x := ⟨_, rfl⟩
              obtain ⟨x, hx⟩ := hx
              have hy : ∃ y, dk[a + o]! = y := ⟨_, rfl⟩
              obtain ⟨y, hy⟩ := hy
              have c1 := hS.1.cell (i := i) (by rw [HDk.out]; omega)
              have f1 := hS.1.frozen (i)
              have c2 := hS.1.cell (i := a + o) (by rw [HDk.out]; omega)
              have f2 := hS.1.frozen (a + o)
              rw [hx] at c1
              rw [hy] at c2
              have HX := Lib.hid hx
              have HY := Lib.hid hy
              clear hx hy
              have hS2 := hS.set (i) y
              have c3 := hS2.1.cell (i := a + o) (by rw [Array.size_setIfInBounds, HDk.out]; omega)
              have f3 := hS2.1.frozen (a + o)
              generalize (Array.setIfInBounds dk (i) y)[a + o]! = z at c3
              clear hS2
              have b1 : ((i : Nat) : Int) < (d.size : Int) := by omega
              have n1 : (0 : Int) ≤ ((i : Nat) : Int) := by omega
              have b2 : ((a + o : Nat) : Int) < (d.size : Int) := by omega
              have n2 : (0 : Int) ≤ ((a + o : Nat) : Int) := by omega
              go_wp2
              go_region
              have hsw := (hS.swap (i := i) (j := a + o)).drew
              rw [HX.out, HY.out] at hsw
              clear hS c1 c2 f1 f2 c3 f3 HX HY
              have hX3 := hX.imp fun X h => box_two (g := g) (i := i) (j := a + o) (u1 := .int .i32 (y : Int)) (u2 := .int .i32 (x : Int)) h (by omega)
              generalize World.drew _ = w5 at hsw hX3 ⊢
              have HP2 : Hid (PermIn a b d (swp dk i (a + o))) := Lib.hid (permIn_trans _ _ _ a b HP.out (swp_permIn dk a b i (a + o) hia hib (by omega) (by omega) (by rw [HDk.out]; exact hd)))
              go_wp2_with fail
              go_roundg k
              case measure => omega
              case rel => exact ⟨i + 1, _, by go_num, by omega, by omega, Lib.hid (by rw [size_swp, HDk.out]), HP2, hsw, hX3⟩
end Go.Proofs.Ytcdjjodiiaahfaa
