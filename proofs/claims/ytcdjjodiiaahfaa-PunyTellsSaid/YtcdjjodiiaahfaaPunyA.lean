/-
  Contracts of puny.scalar, puny.allScalars, puny.basics, puny.firstBias, (puny.bias).threshold, (*puny.bias).follow.
-/
import Derived.Test.YtcdjjodiiaahfaaRows
import Derived.Test.YtcdjjodiiaahfaaPunyMath
import Derived.Test.YtcdjjodiiaahfaaWords
import Derived.WalkKit
import Derived.WalkLawsBesides
import Derived.WalkSpells
import Derived.Outline
import Derived.Lib.Hide
namespace Go.Proofs.Ytcdjjodiiaahfaa
open Go.RowKit Puny

def isSca (n : Int) : Bool := decide (0 ≤ n ∧ n ≤ 1114111 ∧ (n < 55296 ∨ 57343 < n))

set_option maxHeartbeats 400000 in
theorem scalar_any (r : Int) (w : World) : Calls Try.prog 32 #[.int .i64 r] w fun e w' => e = .returned (.bool (isSca r)) ∧ w = w' := by
  by_cases h1 : 0 ≤ r
  · by_cases h2 : r ≤ 1114111
    · by_cases h3 : r < 55296
      · go_enter Try.func32, Try.ntmps32
        go_wp2
        go_ret
        exact ⟨ret_bool (by simp [isSca]; omega), rfl⟩
      · by_cases h4 : 57343 < r
        · go_enter Try.func32, Try.ntmps32
          go_wp2
          go_ret
          exact ⟨ret_bool (by simp [isSca]; omega), rfl⟩
        · go_enter Try.func32, Try.ntmps32
          go_wp2
          go_ret
          exact ⟨ret_bool (by simp [isSca]; omega), rfl⟩
    · go_enter Try.func32, Try.ntmps32
      go_wp2
      go_ret
      exact ⟨ret_bool (by simp [isSca]; omega), rfl⟩
  · go_enter Try.func32, Try.ntmps32
    go_wp2
    go_ret
    exact ⟨ret_bool (by simp [isSca]; omega), rfl⟩
theorem scalar_yes {r : Int} (w : World) (h : isSca r = true) : Calls Try.prog 32 #[.int .i64 r] w fun e w' => e = .returned (.bool true) ∧ w = w' := by
  have := scalar_any r w
  rw [h] at this
  exact this
theorem scalar_no {r : Int} (w : World) (h : isSca r = false) : Calls Try.prog 32 #[.int .i64 r] w fun e w' => e = .returned (.bool false) ∧ w = w' := by
  have := scalar_any r w
  rw [h] at this
  exact this

def IsBool (b : Bool) (w : World) (e : Ending) (w' : World) : Prop := e = .returned (.bool b) ∧ w = w'
theorem isBool_mk {a b : Bool} {w : World} (h : a = b) : IsBool b w (.returned (.bool a)) w := ⟨by rw [h], rfl⟩

set_option maxHeartbeats 400000 in
theorem allScalars_any (l : List Int) (A : Option Addr) (n c : Nat) (w : World) (hn : l.length = n) (hn1 : n ≤ 1000000) (hr : Row w w.heap.size A (cl .i32 l)) (hw : ∀ x ∈ l, -2147483648 ≤ x ∧ x ≤ 2147483647) :
    Calls Try.prog 19 #[.slice A n c] w (IsBool (l.all isSca) w) := by
  have HN := Lib.hid hn
  have HW := Lib.hid hw
  clear hn hw
  go_enter Try.func19, Try.ntmps19
  go_wp2
  go_loop [7] (fun i => ∃ k : Nat, k ≤ n ∧ i = .int .i64 k ∧ l.all isSca = (l.drop k).all isSca) (fun i => n - (intOf i).toNat)
  case atStart => exact ⟨0, by omega, rfl, rfl⟩
  case round =>
    obtain ⟨k, hk, rfl, hall⟩ := hrel
    have HA := Lib.hid hall
    clear hall
    by_cases hlt : k < n
    · have hkl : k < l.length := by rw [HN.out]; exact hlt
      obtain ⟨b, o, rfl, hb, hc⟩ := hr.at_ (by simp; omega)
      have g := hc k (by simp; omega)
      rw [cl_get _ _ _ hkl] at g
      have hx := HW.out l[k] (List.getElem_mem hkl)
      have hd : l.drop k = l[k] :: l.drop (k + 1) := List.drop_eq_getElem_cons hkl
      have HD := Lib.hid hd
      clear hd hc hr
      cases hs : isSca l[k] with
      | true =>
        have HS := Lib.hid hs
        clear hs
        go_wp2_with (first | (go_at_call 32; refine (scalar_yes _ HS.out).mono ?_; rintro e w' ⟨rfl, rfl⟩) | fail)
        go_round
        case rel => exact ⟨k + 1, by omega, by go_num, by rw [HA.out, HD.out, List.all_cons, HS.out]; rfl⟩
        case measure => simp [intOf]; omega
      | false =>
        have HS := Lib.hid hs
        clear hs
        go_wp2_with (first | (go_at_call 32; refine (scalar_no _ HS.out).mono ?_; rintro e w' ⟨rfl, rfl⟩) | fail)
        go_ret
        exact isBool_mk (by rw [HA.out, HD.out, List.all_cons, HS.out]; rfl)
    · obtain rfl : k = n := by omega
      go_wp2
      go_ret
      exact isBool_mk (by rw [HA.out, List.drop_of_length_le (by rw [HN.out]; omega)]; rfl)

theorem info_u8 : (Try.prog.info? 5).map (fun i => (i.zero, i.size, i.bytes)) = some (some (.int .u8 0), 1, 1) := by kernel_rfl
theorem info_i32 : (Try.prog.info? 21).map (fun i => (i.zero, i.size, i.bytes)) = some (some (.int .i32 0), 1, 4) := by kernel_rfl

def biasV (lead part : Nat) : Value := .agg #[.int .i64 lead, .int .i64 part]

set_option maxHeartbeats 400000 in
theorem firstBias_any (w : World) : Calls Try.prog 21 #[] w fun e w' => e = .returned (biasV 72 700) ∧ Below w.heap.size w w' := by
  go_enter Try.func21, Try.ntmps21
  go_wp2
  exact bodyPost_ret (v := biasV 72 700) (by simp [results, Try.results21, go_sem, biasV]) rfl ⟨rfl, (Below.refl _ _).alloc (Nat.le_refl _) _⟩

set_option maxHeartbeats 400000 in
theorem threshold_any (lead part k : Nat) (w : World) (hl : lead ≤ 1000000000000) (hk : k ≤ 1000000000000) :
    Calls Try.prog 45 #[.agg #[.int .i64 lead, .int .i64 part], .int .i64 k] w fun e w' => e = .returned (.int .i64 (thr lead k : Nat)) ∧ Below w.heap.size w w' := by
  by_cases h1 : 36 * (k : Int) - (lead : Int) < 1
  · go_enter Try.func45, Try.ntmps45
    go_wp2
    go_ret
    exact ⟨ret_int (by unfold thr; omega), (Below.refl _ _).alloc (Nat.le_refl _) _⟩
  · by_cases h2 : 26 < 36 * (k : Int) - (lead : Int)
    · go_enter Try.func45, Try.ntmps45
      go_wp2
      go_ret
      exact ⟨ret_int (by unfold thr; omega), (Below.refl _ _).alloc (Nat.le_refl _) _⟩
    · go_enter Try.func45, Try.ntmps45
      go_wp2
      go_ret
      exact ⟨ret_int (by unfold thr; omega), (Below.refl _ _).alloc (Nat.le_refl _) _⟩

/-- what 'follow' does, behind a name -/
def Followed (B d part h : Nat) (w : World) (e : Ending) (w' : World) : Prop :=
  e = .returned (.tuple #[]) ∧ w' = (w.setCell ⟨B, 0, none⟩ (.int .i64 (next d part h : Nat))).setCell ⟨B, 1, none⟩ (.int .i64 2)

theorem followed_mk {B d part h x : Nat} {w : World} (e : next d part h = x) : Followed B d part h w (.returned (.tuple #[])) ((w.setCell ⟨B, 0, none⟩ (.int .i64 (x : Nat))).setCell ⟨B, 1, none⟩ (.int .i64 2)) := by
  subst e; exact ⟨rfl, rfl⟩

theorem adapt_go {d k : Nat} (h : 455 < d) : adapt d k = adapt (d / 35) (k + 36) := by rw [adapt, dif_pos h]
theorem adapt_end {d k : Nat} (h : ¬ 455 < d) : adapt d k = k + 36 * d / (d + 38) := by rw [adapt, dif_neg h]

set_option maxHeartbeats 400000 in
theorem follow_any (B d part h : Nat) (lead : Int) (w : World) (hd : d ≤ 100000000000) (hp : 0 < part) (hh0 : 0 < h) (hh : h ≤ 1000000)
    (c0 : w.cell? ⟨B, 0, none⟩ = some (.int .i64 lead)) (c1 : w.cell? ⟨B, 1, none⟩ = some (.int .i64 part)) (f0 : w.frozen? ⟨B, 0, none⟩ = false) (f1 : w.frozen? ⟨B, 1, none⟩ = false) :
    Calls Try.prog 24 #[.pointer (some ⟨B, 0, none⟩), .int .i64 d, .int .i64 h] w (Followed B d part h w) := by
  have hh3 : ((h : Int) == 0) = false := by simp; omega
  have hq0 : ((d : Int) / part) / h = ((d / part / h : Nat) : Int) := by simp
  have hp1 : ((d : Int) / part) = ((d / part : Nat) : Int) := by simp
  have hb1 : d / part ≤ d := Nat.div_le_self _ _
  have hb2 : d / part / h ≤ d / part := Nat.div_le_self _ _
  obtain ⟨x, hx⟩ : ∃ x, d / part = x := ⟨_, rfl⟩
  rw [hx] at hb1 hb2 hp1 hq0
  obtain ⟨y, hy⟩ : ∃ y, x / h = y := ⟨_, rfl⟩
  rw [hy] at hb2 hq0
  have hxh : (x : Int) / h = (y : Int) := by rw [← hy]; simp
  have HN := Lib.hid (show next d part h = adapt (x + y) 0 by unfold next; rw [hx, hy])
  clear hx hy hq0
  go_enter Try.func24, Try.ntmps24
  go_wp2
  go_loop [1, 6] (fun u v => ∃ dd kk : Nat, u = .int .i64 dd ∧ v = .int .i64 kk ∧ dd + kk ≤ 200000000000 ∧ next d part h = adapt dd kk) (fun u _ => (intOf u).toNat)
  case atStart => exact ⟨x + y, 0, by go_num, rfl, by omega, HN.out⟩
  case round =>
    obtain ⟨dd, kk, rfl, rfl, hb, ha⟩ := hrel
    have HA := Lib.hid ha
    clear ha
    by_cases hlt : 455 < dd
    · go_wp2
      go_round
      case rel => exact ⟨dd / 35, kk + 36, by go_num, by go_num, by omega, by rw [HA.out, adapt_go hlt]⟩
      case measure => simp [intOf]; omega
    · have hz : 36 * (dd : Int) / ((dd : Int) + 38) = ((36 * dd / (dd + 38) : Nat) : Int) := by simp
      have hz2 : 36 * dd / (dd + 38) ≤ 36 * dd := Nat.div_le_self _ _
      obtain ⟨q, hq⟩ : ∃ q, 36 * dd / (dd + 38) = q := ⟨_, rfl⟩
      have HQ := Lib.hid hq
      rw [hq] at hz hz2
      clear hq
      go_wp2
      go_end0
      exact followed_mk (x := kk + q) (by rw [HA.out, adapt_end hlt, HQ.out])
end Go.Proofs.Ytcdjjodiiaahfaa
