/-
  four, as mathematics: digits of a number; texts put together of parts.
-/
import Derived.Test.YtpmdecdjlegcnaaDoorFourA
namespace Go.Proofs.YtpmdecdjlegcnaaDoor.Fou

def dgB (d : Nat) : UInt8 := if d < 10 then UInt8.ofNat (48 + d) else UInt8.ofNat (87 + d)
/-- the digits of a number, to a base -/
def digs (b n : Nat) : List UInt8 := if _h : n < b ∨ b < 2 then [dgB n] else digs b (n / b) ++ [dgB (n % b)]
termination_by n
decreasing_by exact Nat.div_lt_self (by omega) (by omega)
theorem digs_lt {b n : Nat} (h : n < b) : digs b n = [dgB n] := by rw [digs, dif_pos (.inl h)]
theorem digs_ge {b n : Nat} (hb : 2 ≤ b) (h : ¬ n < b) : digs b n = digs b (n / b) ++ [dgB (n % b)] := by rw [digs, dif_neg (by omega)]
theorem dgB_all : ∀ d : Fin 16, dv (dgB d.val) = d.val ∧ dgB d.val ≠ 46 ∧ dv (Lib.upperB (dgB d.val)) = d.val ∧ Lib.upperB (dgB d.val) ≠ 46 ∧ (dgB d.val = 48 → d.val = 0) ∧ dgB d.val ≠ 120 ∧ dgB d.val ≠ 88 ∧ Lib.upperB (dgB d.val) ≠ 120 ∧ Lib.upperB (dgB d.val) ≠ 88 ∧ (dgB d.val).toNat < 128 := by decide
theorem dgB_ok {d : Nat} (h : d < 16) : dv (dgB d) = d ∧ dgB d ≠ 46 ∧ dv (Lib.upperB (dgB d)) = d ∧ Lib.upperB (dgB d) ≠ 46 ∧ (dgB d = 48 → d = 0) ∧ dgB d ≠ 120 ∧ dgB d ≠ 88 ∧ Lib.upperB (dgB d) ≠ 120 ∧ Lib.upperB (dgB d) ≠ 88 ∧ (dgB d).toNat < 128 := dgB_all ⟨d, h⟩
theorem digs_ne (b n : Nat) : digs b n ≠ [] := by
  rw [digs]
  split <;> simp
theorem digs_mem {b : Nat} (hb : 2 ≤ b) : ∀ (n : Nat), ∀ c ∈ digs b n, ∃ d, d < b ∧ c = dgB d := by
  intro n
  induction n using Nat.strongRecOn with
  | _ n ih =>
    intro c hc
    by_cases h : n < b
    · rw [digs_lt h, List.mem_singleton] at hc
      exact ⟨n, h, hc⟩
    · rw [digs_ge hb h] at hc
      rcases List.mem_append.1 hc with h1 | h1
      · exact ih (n / b) (Nat.div_lt_self (by omega) (by omega)) c h1
      · rw [List.mem_singleton] at h1
        exact ⟨n % b, Nat.mod_lt _ (by omega), h1⟩
theorem digs_val {b : Nat} (hb : 2 ≤ b) (hb16 : b ≤ 16) : ∀ n, val b (digs b n) = some (cap n) := by
  intro n
  induction n using Nat.strongRecOn with
  | _ n ih =>
    by_cases h : n < b
    · rw [digs_lt h, val, vgo, (dgB_ok (by omega : n < 16)).1, if_pos h, vgo, Nat.zero_mul, Nat.zero_add]
    · have hm : n % b < b := Nat.mod_lt _ (by omega)
      have := ih (n / b) (Nat.div_lt_self (by omega) (by omega))
      rw [val] at this
      rw [digs_ge hb h, val, vgo_snoc, this]
      show (if dv (dgB (n % b)) < b then some (cap (cap (n / b) * b + dv (dgB (n % b)))) else none) = _
      rw [(dgB_ok (by omega : n % b < 16)).1, if_pos hm, cap_step b _ _ (by omega), Nat.mul_comm, Nat.div_add_mod]
theorem vgo_map {f : UInt8 → UInt8} (b : Nat) : ∀ (l : List UInt8) (n : Nat), (∀ c ∈ l, dv (f c) = dv c) → vgo b n (l.map f) = vgo b n l
  | [], _, _ => rfl
  | c :: t, n, h => by
    rw [List.map_cons, vgo, vgo, h c (List.mem_cons_self ..)]
    split
    · exact vgo_map b t _ (fun x hx => h x (List.mem_cons_of_mem _ hx))
    · rfl
theorem up_val {b : Nat} (hb : 2 ≤ b) (hb16 : b ≤ 16) (n : Nat) : val b (Lib.toUpperA (digs b n)) = some (cap n) := by
  rw [← digs_val hb hb16 n]
  refine vgo_map b _ 0 fun c hc => ?_
  obtain ⟨d, hd, rfl⟩ := digs_mem hb n c hc
  rw [(dgB_ok (by omega : d < 16)).1, (dgB_ok (by omega : d < 16)).2.2.1]
theorem vgo_nought (b : Nat) (hb : 2 ≤ b) (l : List UInt8) : ∀ k, vgo b 0 (List.replicate k 48 ++ l) = vgo b 0 l
  | 0 => by simp
  | k + 1 => by
    rw [List.replicate_succ, List.cons_append, vgo, show dv 48 = 0 by decide, if_pos (by omega), Nat.zero_mul, show cap (0 + 0) = 0 by decide]
    exact vgo_nought b hb l k
/-- its first digit is no nought, but for nought itself -/
theorem digs_head {b : Nat} (hb : 2 ≤ b) (hb16 : b ≤ 16) : ∀ n, (digs b n).head? = some 48 → n = 0 := by
  intro n
  induction n using Nat.strongRecOn with
  | _ n ih =>
    intro h
    by_cases hn : n < b
    · rw [digs_lt hn] at h
      exact (dgB_ok (by omega : n < 16)).2.2.2.2.1 (Option.some.inj h)
    · have hd : (digs b (n / b) ++ [dgB (n % b)]).head? = (digs b (n / b)).head? := by
        cases hq : digs b (n / b) with
        | nil => exact absurd hq (digs_ne b (n / b))
        | cons a t => rfl
      rw [digs_ge hb hn, hd] at h
      have h0 := ih (n / b) (Nat.div_lt_self (by omega) (by omega)) h
      have := Nat.div_eq_zero_iff.1 h0
      omega
theorem digs_num (n : Nat) : num (digs 10 n) = some (cap n) := by
  unfold num
  rw [if_neg (digs_ne 10 n)]
  have : dgs (digs 10 n) = (digs 10 n, 10) := by
    cases h : digs 10 n with
    | nil => rfl
    | cons a t =>
      cases t with
      | nil => rfl
      | cons b t =>
        rw [dgs, if_neg]
        rintro rfl
        have h0 := digs_head (b := 10) (by decide) (by decide) n (by rw [h]; rfl)
        rw [h0, digs_lt (by decide)] at h
        exact absurd (congrArg List.length h) (by simp)
  rw [this]
  exact digs_val (b := 10) (by decide) (by decide) n
theorem oct_num (k n : Nat) : num (48 :: (List.replicate k 48 ++ digs 8 n)) = some (cap n) := by
  unfold num
  rw [if_neg (by simp)]
  have : dgs (48 :: (List.replicate k 48 ++ digs 8 n)) = (List.replicate k 48 ++ digs 8 n, 8) := by
    cases k with
    | zero =>
      rw [List.replicate_zero, List.nil_append]
      cases h : digs 8 n with
      | nil => exact absurd h (digs_ne 8 n)
      | cons a t =>
        obtain ⟨d, hd, e⟩ := digs_mem (b := 8) (by decide) n a (by rw [h]; exact List.mem_cons_self ..)
        have ho := dgB_ok (by omega : d < 16)
        rw [dgs, if_pos rfl, if_neg]
        rintro (h1 | h1)
        · exact ho.2.2.2.2.2.1 (e.symm.trans h1)
        · exact ho.2.2.2.2.2.2.1 (e.symm.trans h1)
    | succ k =>
      rw [List.replicate_succ, List.cons_append, dgs, if_pos rfl, if_neg (by decide)]
  rw [this]
  show val 8 _ = _
  rw [val, vgo_nought 8 (by decide)]
  exact digs_val (by decide) (by decide) n
theorem hex_num (k n : Nat) : num (48 :: 120 :: (List.replicate k 48 ++ Lib.toUpperA (digs 16 n))) = some (cap n) := by
  unfold num
  rw [if_neg (by simp)]
  have : dgs (48 :: 120 :: (List.replicate k 48 ++ Lib.toUpperA (digs 16 n))) = (List.replicate k 48 ++ Lib.toUpperA (digs 16 n), 16) := rfl
  rw [this]
  show val 16 _ = _
  rw [val, vgo_nought 16 (by decide)]
  exact up_val (by decide) (by decide) n
theorem digs_no {b : Nat} (hb : 2 ≤ b) (hb16 : b ≤ 16) (n : Nat) : (46 : UInt8) ∉ digs b n := fun h => by
  obtain ⟨d, hd, e⟩ := digs_mem hb n _ h
  exact (dgB_ok (by omega : d < 16)).2.1 e.symm
theorem dec_digs : ∀ n, Lib.decDigits n = digs 10 n := by
  intro n
  induction n using Nat.strongRecOn with
  | _ n ih =>
    rw [Lib.decDigits]
    by_cases h : n < 10
    · rw [dif_pos h, digs_lt h, dgB, if_pos h]
    · rw [dif_neg h, digs_ge (by decide) h, ih (n / 10) (Nat.div_lt_self (by omega) (by decide)), dgB, if_pos (Nat.mod_lt _ (by decide))]
theorem digs_len {b : Nat} (hb : 2 ≤ b) : ∀ (k n : Nat), n < b ^ (k + 1) → (digs b n).length ≤ k + 1
  | 0, n, h => by
    rw [digs_lt (by simpa using h)]
    simp
  | k + 1, n, h => by
    by_cases hn : n < b
    · rw [digs_lt hn]; simp
    · rw [digs_ge hb hn, List.length_append, List.length_singleton]
      have := digs_len hb k (n / b) (by rw [Nat.div_lt_iff_lt_mul (by omega), ← Nat.pow_succ]; exact h)
      omega

theorem trm_spl {l : List UInt8} (h : (spl l).getLast? ≠ some []) : trm l = l := by
  refine trm_no fun e => h ?_
  obtain ⟨a, rfl⟩ : ∃ a, l = a ++ [46] := by
    have hne : l ≠ [] := fun e2 => by rw [e2] at e; cases e
    refine ⟨l.dropLast, ?_⟩
    have h1 := List.getLast?_eq_some_getLast hne
    rw [e] at h1
    exact (List.dropLast_concat_getLast hne).symm.trans (by rw [← Option.some.inj h1])
  rw [spl_app, List.getLast?_append]
  rfl
theorem rpt_join (ps : List (List UInt8)) (hne : ps ≠ []) (hno : ∀ p ∈ ps, (46 : UInt8) ∉ p) (hl : ps.getLast? ≠ some []) : rpt (trm (Lib.join ps [46])) = ps.reverse := by
  have h := spl_join ps hne hno
  rw [trm_spl (by rw [h]; exact hl), rpt, h]
theorem ans_join (ps : List (List UInt8)) (hne : ps ≠ []) (hno : ∀ p ∈ ps, (46 : UInt8) ∉ p) (hl : ps.getLast? ≠ some []) : ans (Lib.join ps [46]) = prs ps.reverse := by
  rw [ans, rpt_join ps hne hno hl]
theorem rpt_join_dot (ps : List (List UInt8)) (hne : ps ≠ []) (hno : ∀ p ∈ ps, (46 : UInt8) ∉ p) : rpt (trm (Lib.join ps [46] ++ [46])) = ps.reverse := by
  rw [trm_dot, rpt, spl_join ps hne hno]
theorem ans_dots (l : List UInt8) : ans (l ++ [46] ++ [46]) = none := by
  rw [ans, trm_dot, show l ++ [46] = l ++ 46 :: [] from rfl, rpt_last (by simp), prs, pgo_none (p := []) rfl _ _ _ _ (List.mem_cons_self ..)]
  rfl
theorem ends_of {l p : List UInt8} {r : List (List UInt8)} {n : Nat} (h : rpt (trm l) = p :: r) (hn : num p = some n) : ends l = true := by
  unfold ends
  rw [lst_of h, hn]
  have : p ≠ [] := fun e => by rw [e] at hn; cases hn
  cases p with
  | nil => exact absurd rfl this
  | cons a t => simp

/-- the four bytes, the highest first -/
def byt (x j : Nat) : Nat := x / 2 ^ (24 - 8 * j) % 256
def bts (x : Nat) : List (List UInt8) := [digs 10 (byt x 0), digs 10 (byt x 1), digs 10 (byt x 2), digs 10 (byt x 3)]
def shw (x : Nat) : List UInt8 := Lib.join (bts x) [46]
theorem byt_lt (x j : Nat) : byt x j < 256 := Nat.mod_lt _ (by decide)
theorem byt_num (x j : Nat) : num (digs 10 (byt x j)) = some (byt x j) := by
  rw [digs_num, cap_of (by have := byt_lt x j; omega)]
theorem bts_no (x : Nat) : ∀ p ∈ bts x, (46 : UInt8) ∉ p := by
  intro p hp
  simp only [bts, List.mem_cons, List.not_mem_nil, or_false] at hp
  rcases hp with rfl | rfl | rfl | rfl <;> exact digs_no (by decide) (by decide) _
theorem bts_last (x : Nat) : (bts x).getLast? ≠ some [] := by
  simp only [bts, List.getLast?_cons_cons, List.getLast?_singleton, ne_eq, Option.some.injEq]
  exact digs_ne _ _
theorem prs_bts {x : Nat} (hx : x < 4294967296) : prs (bts x).reverse = some x := by
  have h0 := byt_lt x 0
  have h1 := byt_lt x 1
  have h2 := byt_lt x 2
  have h3 := byt_lt x 3
  have e : x = ((byt x 0 * 256 + byt x 1) * 256 + byt x 2) * 256 + byt x 3 := by
    unfold byt
    simp only [Nat.mul_zero, Nat.sub_zero, Nat.mul_one, Nat.reduceMul, Nat.reduceSub, Nat.reducePow, Nat.pow_zero, Nat.div_one]
    omega
  have n0 := byt_num x 0
  have n1 := byt_num x 1
  have n2 := byt_num x 2
  have n3 := byt_num x 3
  unfold prs bts
  generalize byt x 0 = a at *
  generalize byt x 1 = b at *
  generalize byt x 2 = c at *
  generalize byt x 3 = d at *
  have g1 : ¬ 255 < a := by omega
  have g2 : ¬ 255 < b := by omega
  have g3 : ¬ 255 < c := by omega
  simp [pgo, n0, n1, n2, n3, g1, g2, g3, fit]
  omega
theorem ans_shw {x : Nat} (hx : x < 4294967296) : ans (shw x) = some x := by
  rw [shw, ans_join _ (by simp [bts]) (bts_no x) (bts_last x), prs_bts hx]
theorem ans_shw_dot {x : Nat} (hx : x < 4294967296) : ans (shw x ++ [46]) = some x := by
  rw [ans, shw, rpt_join_dot _ (by simp [bts]) (bts_no x), prs_bts hx]
theorem ends_shw (x : Nat) : ends (shw x) = true :=
  ends_of (by rw [shw, rpt_join _ (by simp [bts]) (bts_no x) (bts_last x)]; rfl) (byt_num x 3)
theorem ends_shw_dot (x : Nat) : ends (shw x ++ [46]) = true :=
  ends_of (by rw [shw, rpt_join_dot _ (by simp [bts]) (bts_no x)]; rfl) (byt_num x 3)
theorem shw_inj {x y : Nat} (hx : x < 4294967296) (hy : y < 4294967296) (h : shw x = shw y) : x = y := by
  have := ans_shw hx
  rw [h, ans_shw hy] at this
  exact (Option.some.inj this).symm
theorem bts_len (x : Nat) : ∀ p ∈ bts x, p.length ≤ 3 := by
  intro p hp
  simp only [bts, List.mem_cons, List.not_mem_nil, or_false] at hp
  rcases hp with rfl | rfl | rfl | rfl <;> exact digs_len (by decide) 2 _ (Nat.lt_of_lt_of_le (byt_lt _ _) (by decide))
theorem shw_len (x : Nat) : (shw x).length ≤ 15 := by
  have h := bts_len x
  simp only [bts, List.mem_cons, List.not_mem_nil, or_false, forall_eq_or_imp, forall_eq] at h
  simp [shw, bts, Lib.join, List.intercalate, List.intersperse]
  omega
end Go.Proofs.YtpmdecdjlegcnaaDoor.Fou
