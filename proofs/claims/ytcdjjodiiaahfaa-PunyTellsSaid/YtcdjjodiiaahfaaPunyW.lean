/-
  The document's own answer of layer 4: Scalar, threshold, digit, worth, next, step, ahead, read.
-/
import Derived.Test.YtcdjjodiiaahfaaPunyV
import Derived.Test.YtcdjjodiiaahfaaPunyD
namespace Go.Proofs.Ytcdjjodiiaahfaa
open Go.RowKit Go.Shelf Puny

def Same1 (v : Value) (w : World) (e : Ending) (w' : World) : Prop := e = .returned v ∧ w = w'
theorem same1_int {a b : Int} {k : IntKind} {w : World} (h : a = b) : Same1 (.int k b) w (.returned (.int k a)) w := ⟨by rw [h], rfl⟩
theorem same1_bool {a b : Bool} {w : World} (h : a = b) : Same1 (.bool b) w (.returned (.bool a)) w := ⟨by rw [h], rfl⟩

theorem rScalar_any (r : Int) (w : World) : Calls Try.prog 25 #[.int .i32 r] w (Same1 (.bool (isSca r)) w) := by
  by_cases h0 : 0 ≤ r
  · by_cases h1 : r ≤ 1114111
    · by_cases h2 : r < 55296
      · go_enter Try.func25, Try.ntmps25
        go_wp2
        go_ret
        exact same1_bool (by simp [isSca]; omega)
      · by_cases h3 : 57343 < r
        · go_enter Try.func25, Try.ntmps25
          go_wp2
          go_ret
          exact same1_bool (by simp [isSca]; omega)
        · go_enter Try.func25, Try.ntmps25
          go_wp2
          go_ret
          exact same1_bool (by simp [isSca]; omega)
    · go_enter Try.func25, Try.ntmps25
      go_wp2
      go_ret
      exact same1_bool (by simp [isSca]; omega)
  · go_enter Try.func25, Try.ntmps25
    go_wp2
    go_ret
    exact same1_bool (by simp [isSca]; omega)

theorem rThreshold_any (k lead : Nat) (w : World) (hk : k ≤ 10000000000) (hl : lead ≤ 1000000000000) : Calls Try.prog 46 #[.int .i64 k, .int .i64 lead] w (Same1 (.int .i64 ((thr lead k : Nat) : Int)) w) := by
  by_cases h1 : 36 * (k : Int) - (lead : Int) < 1
  · go_enter Try.func46, Try.ntmps46
    go_wp2
    go_ret
    exact same1_int (by unfold thr; omega)
  · by_cases h2 : 26 < 36 * (k : Int) - (lead : Int)
    · go_enter Try.func46, Try.ntmps46
      go_wp2
      go_ret
      exact same1_int (by unfold thr; omega)
    · go_enter Try.func46, Try.ntmps46
      go_wp2
      go_ret
      exact same1_int (by unfold thr; omega)

theorem rDigit_any (d : Nat) (w : World) (hd : d < 36) : Calls Try.prog 47 #[.int .i64 d] w (Same1 (.int .u8 (sgn d)) w) := by
  have hs : sgn d = if d < 26 then 97 + (d : Int) else 22 + (d : Int) := by unfold sgn; rw [sign_nat hd]; split <;> omega
  by_cases h : d < 26
  · have hz : (d : Int) < 26 := by omega
    have HS : Hid (sgn d = 97 + (d : Int)) := Lib.hid (by rw [hs, if_pos h])
    clear hs
    go_enter Try.func47, Try.ntmps47
    go_wp2
    go_ret
    exact same1_int (by rw [HS.out]; first | done | omega | (simp [IntKind.wrap, IntKind.bits, IntKind.signed]; omega))
  · have hz : ¬ (d : Int) < 26 := by omega
    have HS : Hid (sgn d = 22 + (d : Int)) := Lib.hid (by rw [hs, if_neg h])
    clear hs
    go_enter Try.func47, Try.ntmps47
    go_wp2
    go_ret
    exact same1_int (by rw [HS.out]; first | done | omega | (simp [IntKind.wrap, IntKind.bits, IntKind.signed]; omega))

/-- a sign's worth as a number; -1: none -/
def wz (c : UInt8) : Int := match worth c with | some x => (x : Int) | none => -1
theorem rWorth_any (c : UInt8) (w : World) : Calls Try.prog 52 #[.int .u8 ((c.toNat : Nat) : Int)] w (Same1 (.int .i64 (wz c)) w) := by
  have hc : c.toNat < 256 := c.toNat_lt
  have hw : wz c = if 97 ≤ c.toNat ∧ c.toNat ≤ 122 then ((c.toNat : Nat) : Int) - 97 else if 48 ≤ c.toNat ∧ c.toNat ≤ 57 then ((c.toNat : Nat) : Int) - 22 else -1 := by
    unfold wz worth
    by_cases h1 : 97 ≤ c.toNat ∧ c.toNat ≤ 122
    · rw [if_pos h1, if_pos h1]; simp only; omega
    · rw [if_neg h1, if_neg h1]
      by_cases h2 : 48 ≤ c.toNat ∧ c.toNat ≤ 57
      · rw [if_pos h2, if_pos h2]; simp only; omega
      · rw [if_neg h2, if_neg h2]
  obtain ⟨n, hn⟩ : ∃ n, c.toNat = n := ⟨_, rfl⟩
  rw [hn] at hw hc ⊢
  have HW := Lib.hid hw
  clear hw hn
  by_cases a : 97 ≤ n
  · by_cases b : n ≤ 122
    · have a1 : (97 : Int) ≤ (n : Int) := by omega
      have b1 : (n : Int) ≤ 122 := by omega
      go_enter Try.func52, Try.ntmps52
      go_wp2
      go_ret
      exact same1_int (by rw [HW.out, if_pos ⟨a, b⟩]; first | done | omega | (simp [IntKind.wrap, IntKind.bits, IntKind.signed]; omega))
    · have a1 : (97 : Int) ≤ (n : Int) := by omega
      have b1 : ¬ (n : Int) ≤ 122 := by omega
      have c1 : (48 : Int) ≤ (n : Int) := by omega
      have d1 : ¬ (n : Int) ≤ 57 := by omega
      go_enter Try.func52, Try.ntmps52
      go_wp2
      go_ret
      exact same1_int (by rw [HW.out, if_neg (by omega), if_neg (by omega)])
  · have a1 : ¬ (97 : Int) ≤ (n : Int) := by omega
    by_cases b : 48 ≤ n
    · have c1 : (48 : Int) ≤ (n : Int) := by omega
      by_cases d : n ≤ 57
      · have d1 : (n : Int) ≤ 57 := by omega
        go_enter Try.func52, Try.ntmps52
        go_wp2
        go_ret
        exact same1_int (by rw [HW.out, if_neg (by omega), if_pos ⟨b, d⟩]; first | done | omega | (simp [IntKind.wrap, IntKind.bits, IntKind.signed]; omega))
      · have d1 : ¬ (n : Int) ≤ 57 := by omega
        go_enter Try.func52, Try.ntmps52
        go_wp2
        go_ret
        exact same1_int (by rw [HW.out, if_neg (by omega), if_neg (by omega)])
    · have c1 : ¬ (48 : Int) ≤ (n : Int) := by omega
      go_enter Try.func52, Try.ntmps52
      go_wp2
      go_ret
      exact same1_int (by rw [HW.out, if_neg (by omega), if_neg (by omega)])

set_option maxHeartbeats 1000000 in
theorem rNext_any (d h : Nat) (first : Bool) (w : World) (hd : d ≤ 100000000000) (hh0 : 0 < h) (hh : h ≤ 1000000) :
    Calls Try.prog 29 #[.int .i64 d, .int .i64 h, .bool first] w (Same1 (.int .i64 ((next d (if first then 700 else 2) h : Nat) : Int)) w) := by
  obtain ⟨part, hpart⟩ : ∃ p, (if first then 700 else 2) = p := ⟨_, rfl⟩
  have hp0 : 0 < part := by rw [← hpart]; split <;> omega
  have hh3 : ((h : Int) == 0) = false := by simp; omega
  have hh4 : ¬ (h : Int) = 0 := by omega
  have hb1 : d / part ≤ d := Nat.div_le_self _ _
  have hb2 : d / part / h ≤ d / part := Nat.div_le_self _ _
  obtain ⟨x, hx⟩ : ∃ x, d / part = x := ⟨_, rfl⟩
  rw [hx] at hb1 hb2
  obtain ⟨y, hy⟩ : ∃ y, x / h = y := ⟨_, rfl⟩
  rw [hy] at hb2
  have hxh : (x : Int).tdiv (h : Int) = (y : Int) := by rw [Int.tdiv_eq_ediv_of_nonneg (by omega), ← hy]; simp
  have hxh2 : (x : Int) / (h : Int) = (y : Int) := by rw [← hy]; simp
  have HN := Lib.hid (show next d (if first then 700 else 2) h = adapt (x + y) 0 by rw [hpart]; unfold next; rw [hx, hy])
  have HX := Lib.hid hx
  clear hx hy
  obtain ⟨R, hR⟩ : ∃ R, next d (if first then 700 else 2) h = R := ⟨_, rfl⟩
  rw [hR] at HN ⊢
  clear hR
  go_enter Try.func29, Try.ntmps29
  go_upto_if 8 with fail
  go_cut [0] from 9 (fun s0 wx => s0 = .int .i64 (x : Int) ∧ wx = w)
  case first =>
    cases first with
    | true =>
      have hp : part = 700 := by rw [← hpart]; rfl
      have hq : (d : Int).tdiv 700 = (x : Int) := by rw [Int.tdiv_eq_ediv_of_nonneg (by omega), ← HX.out, hp]; omega
      have hq2 : (d : Int) / 700 = (x : Int) := by rw [← HX.out, hp]; omega
      clear hp hpart
      go_wp2_with fail
      go_meet
      exact ⟨by first | rfl | go_num, rfl⟩
    | false =>
      have hp : part = 2 := by rw [← hpart]; rfl
      have hq : (d : Int).tdiv 2 = (x : Int) := by rw [Int.tdiv_eq_ediv_of_nonneg (by omega), ← HX.out, hp]; omega
      have hq2 : (d : Int) / 2 = (x : Int) := by rw [← HX.out, hp]; omega
      clear hp hpart
      go_wp2_with fail
      go_meet
      exact ⟨by first | rfl | go_num, rfl⟩
  case rest =>
    obtain ⟨rfl, hwc⟩ := hcut
    rw [hwc]
    clear hwc hpart HX
    go_wp2
    go_loopg [0, 7] (x + y) (fun k s0 s7 wr => ∃ dd kk : Nat, s0 = .int .i64 dd ∧ s7 = .int .i64 kk ∧ k = 0 + dd ∧ dd + kk ≤ 200000000000 ∧ Hid (R = adapt dd kk) ∧ wr = w)
    case atStart => exact ⟨x + y, 0, by go_num, rfl, by omega, by omega, HN, rfl⟩
    case round =>
      obtain ⟨dd, kk, rfl, rfl, rfl, hb, HA, hwr⟩ := hrel
      rw [hwr]
      clear hwr
      by_cases hlt : 455 < dd
      · have hz : (455 : Int) < (dd : Int) := by omega
        go_wp2
        go_roundg (0 + dd / 35)
        case measure => omega
        case rel => exact ⟨dd / 35, kk + 36, by go_num, by go_num, rfl, by omega, Lib.hid (by rw [HA.out, adapt_go hlt]), rfl⟩
      · have hz : 36 * (dd : Int) / ((dd : Int) + 38) = ((36 * dd / (dd + 38) : Nat) : Int) := by simp
        have hz3 : (36 * (dd : Int)).tdiv ((dd : Int) + 38) = ((36 * dd / (dd + 38) : Nat) : Int) := by rw [Int.tdiv_eq_ediv_of_nonneg (by omega)]; simp
        have hz2 : 36 * dd / (dd + 38) ≤ 36 * dd := Nat.div_le_self _ _
        obtain ⟨q, hq⟩ : ∃ q, 36 * dd / (dd + 38) = q := ⟨_, rfl⟩
        have HQ := Lib.hid hq
        rw [hq] at hz hz2 hz3
        have hnz : ¬ (dd : Int) + 38 = 0 := by omega
        clear hq
        go_wp2
        go_ret
        exact same1_int (by rw [HA.out, adapt_end hlt, HQ.out]; omega)
end Go.Proofs.Ytcdjjodiiaahfaa
