/-
  fasciaref13, as mathematics: read byte by byte.
-/
import Derived.Test.YtcoppicieicikaaDoorSixRA
namespace Go.Proofs.YtcoppicieicikaaDoor.Sx

/-! Numbers with dots. -/
def nums : Nat → List UInt8 → Option (List Nat)
  | 0, _ => none
  | 1, l => (dec l).map fun a => [a]
  | k + 2, l => (cutg [46] l).bind fun q => (dec q.1).bind fun a => (nums (k + 1) q.2).map fun r => a :: r
def two4 (r : List Nat) : Option (List Nat) := match r with | [a, b, c, d] => some [a * 256 + b, c * 256 + d] | _ => none
theorem four_nums (l : List UInt8) : four l = (nums 4 l).bind two4 := by
  unfold four
  simp only [nums]
  cases h1 : cutg [46] l with
  | none => rfl
  | some p =>
    simp only [Option.bind_some]
    cases h2 : cutg [46] p.2 with
    | none => cases dec p.1 <;> rfl
    | some q =>
      simp only [Option.bind_some]
      cases h3 : cutg [46] q.2 with
      | none => cases dec p.1 <;> cases dec q.1 <;> rfl
      | some r =>
        simp only [Option.bind_some]
        cases dec p.1 <;> cases dec q.1 <;> cases dec r.1 <;> cases dec r.2 <;> rfl
/-- what is answered with ds read, k numbers left, each behind a dot -/
def rst : Nat → List Nat → List UInt8 → Option (List Nat)
  | 0, ds, r => if r = [] then some ds else none
  | k + 1, ds, r => match r with | [] => none | c :: t => if c = 46 then (nums (k + 1) t).map fun m => ds ++ m else none
theorem cut1_pre {q e : List UInt8} (hq : (46 : UInt8) ∉ q) {p : List UInt8 × List UInt8} (h : cutg [46] (q ++ e) = some p) : ∃ f, p.1 = q ++ f := by
  obtain ⟨h1, h2⟩ := cut1_some h
  have hl : q.length ≤ p.1.length := by
    rcases Nat.lt_or_ge p.1.length q.length with hlt | hge
    · exfalso
      have := congrArg (fun l => l[p.1.length]?) h1
      simp only [List.getElem?_append_left hlt] at this
      rw [List.getElem?_append_right (Nat.le_refl _), Nat.sub_self, List.getElem?_cons_zero] at this
      exact hq (List.mem_of_getElem? this)
    · exact hge
  refine ⟨p.1.drop q.length, ?_⟩
  have := congrArg (fun l => l.take q.length) h1
  simp only [List.take_left] at this
  rw [List.take_append_of_le_length hl] at this
  have h3 := List.take_append_drop q.length p.1
  rw [← this] at h3
  exact h3.symm
theorem nums_run {k : Nat} {q t : List UInt8} (ds : List Nat) (hq : ∀ c ∈ q, dv c < 10) (ht : ∀ c, t.head? = some c → ¬ dv c < 10) : ((nums (k + 1) (q ++ t)).map fun m => ds ++ m) = (dec q).bind fun a => rst k (ds ++ [a]) t := by
  have h46 : (46 : UInt8) ∉ q := fun h => absurd (hq 46 h) (by decide)
  cases k with
  | zero =>
    rw [nums]
    cases t with
    | nil => rw [List.append_nil]; cases dec q <;> rfl
    | cons c t =>
      rw [dec_bad (c := c) (by simp) (ht c rfl)]
      cases dec q <;> rfl
  | succ k =>
    rw [nums]
    cases t with
    | nil =>
      rw [List.append_nil, cut1_none h46]
      cases dec q <;> rfl
    | cons c t =>
      by_cases hc : c = 46
      · subst hc
        rw [cut1_app t h46, Option.bind_some]
        cases dec q with
        | none => rfl
        | some a =>
          simp only [Option.bind_some, rst, if_true]
          cases nums (k + 1) t <;> simp
      · have hr : ((dec q).bind fun a => rst (k + 1) (ds ++ [a]) (c :: t)) = none := by
          cases dec q with
          | none => rfl
          | some a => simp only [Option.bind_some, rst]; rw [if_neg hc]
        rw [hr]
        cases h : cutg [46] (q ++ c :: t) with
        | none => rfl
        | some p =>
          have e : q ++ c :: t = (q ++ [c]) ++ t := by simp
          rw [e] at h
          obtain ⟨f, hf⟩ := cut1_pre (q := q ++ [c]) (by simp only [List.mem_append, List.mem_singleton, not_or]; exact ⟨h46, fun e => hc e.symm⟩) h
          rw [Option.bind_some, hf, dec_bad (c := c) (by simp) (ht c rfl)]
          rfl
theorem nums_no {k : Nat} {q t : List UInt8} (hq : ∀ c ∈ q, dv c < 10) (h : ∀ e, dec (q ++ e) = none) : nums (k + 1) (q ++ t) = none := by
  have h46 : (46 : UInt8) ∉ q := fun h => absurd (hq 46 h) (by decide)
  cases k with
  | zero => rw [nums, h]; rfl
  | succ k =>
    rw [nums]
    cases hc : cutg [46] (q ++ t) with
    | none => rfl
    | some p =>
      obtain ⟨f, hf⟩ := cut1_pre h46 hc
      rw [Option.bind_some, hf, h]
      rfl
theorem vgo_geR (b : Nat) (hb : 1 ≤ b) : ∀ (l : List UInt8) (n m : Nat), vgo b n l = some m → n ≤ m
  | [], n, m, h => by simp only [vgo, Option.some.injEq] at h; omega
  | x :: t, n, m, h => by
    rw [vgo] at h
    split at h
    · have h1 := vgo_geR b hb t _ _ h
      have h2 : n * 1 ≤ n * b := Nat.mul_le_mul_left _ hb
      omega
    · cases h
theorem vgo_snocR {b n v : Nat} {q : List UInt8} {c : UInt8} (h : vgo b n q = some v) (hc : dv c < b) : vgo b n (q ++ [c]) = some (v * b + dv c) := by
  rw [vgo_app, h, Option.bind_some, vgo, if_pos hc]
  rfl
theorem dec_none_of {p : List UInt8} (h : ∀ n, dec p = some n → False) : dec p = none := by
  cases hd : dec p with
  | none => rfl
  | some n => exact (h n hd).elim
theorem dec_zero (c : UInt8) (e : List UInt8) : dec ([48] ++ c :: e) = none := by
  unfold dec
  rw [if_pos (.inr ⟨by simp, rfl⟩)]
theorem dec_big {q : List UInt8} {m : Nat} (h : vgo 10 0 q = some m) (hm : 255 < m) (e : List UInt8) : dec (q ++ e) = none := dec_none_of fun n hn => by
  obtain ⟨_, h1, h2, _⟩ := dec_some hn
  rw [vgo_app, h, Option.bind_some] at h1
  have := vgo_geR 10 (by decide) e m n h1
  omega
theorem dec_one {c : UInt8} (h : dv c < 10) : dec [c] = some (dv c) := by
  unfold dec
  rw [if_neg (by simp)]
  simp only [vgo, if_pos h, Nat.zero_mul, Nat.zero_add]
  rw [if_pos (by omega)]
theorem dv_zero {c : UInt8} (h : dv c = 0) : c = 48 := by
  unfold dv at h
  split at h
  · have : c.toNat = 48 := by omega
    rw [← UInt8.toNat_inj]; exact this
  · split at h
    · omega
    · split at h <;> omega
theorem dec_nought {q : List UInt8} (h : dec q = some 0) : q = [48] := by
  obtain ⟨h0, h1, _, h3⟩ := dec_some h
  cases q with
  | nil => exact absurd rfl h0
  | cons c t =>
    have hc := h3 c (List.mem_cons_self ..)
    rw [vgo, if_pos hc] at h1
    have := vgo_geR 10 (by decide) t _ _ h1
    have hz : dv c = 0 := by omega
    obtain rfl := dv_zero hz
    cases t with
    | nil => rfl
    | cons d t => rw [show (48 : UInt8) :: d :: t = [48] ++ d :: t from rfl, dec_zero] at h; cases h
theorem dec_step {q : List UInt8} {v : Nat} {c : UInt8} (h : dec q = some v) (hv : v ≠ 0) (hc : dv c < 10) (hs : 10 * v + dv c ≤ 255) : dec (q ++ [c]) = some (10 * v + dv c) := by
  obtain ⟨h0, h1, _, h3⟩ := dec_some h
  have hh : q.head? ≠ some 48 := fun e => by
    cases q with
    | nil => cases e
    | cons a t =>
      obtain rfl : a = 48 := Option.some.inj e
      cases t with
      | nil =>
        have : dec [48] = some 0 := by decide
        rw [this] at h
        exact hv (Option.some.inj h).symm
      | cons d t => rw [show (48 : UInt8) :: d :: t = [48] ++ d :: t from rfl, dec_zero] at h; cases h
  unfold dec
  rw [if_neg (by
    rintro (e | ⟨_, e⟩)
    · simp at e
    · cases q with
      | nil => exact h0 rfl
      | cons a t => exact hh e), vgo_snocR h1 hc]
  simp only
  rw [Nat.mul_comm 10 v, if_pos (by omega)]
theorem dec_over {q : List UInt8} {v : Nat} {c : UInt8} (h : dec q = some v) (hc : dv c < 10) (hs : 255 < 10 * v + dv c) (e : List UInt8) : dec (q ++ c :: e) = none := by
  have h1 := (dec_some h).2.1
  have := vgo_snocR h1 hc
  rw [show q ++ c :: e = (q ++ [c]) ++ e by simp]
  exact dec_big this (by omega) e
theorem vgo_mulR (b : Nat) : ∀ (l : List UInt8) (n m : Nat), vgo b n l = some m → n * b ^ l.length ≤ m
  | [], n, m, h => by simp only [vgo, Option.some.injEq] at h; subst h; simp
  | x :: t, n, m, h => by
    rw [vgo] at h
    split at h
    · have h1 := vgo_mulR b t _ _ h
      refine Nat.le_trans ?_ h1
      rw [List.length_cons, Nat.pow_succ, Nat.mul_comm (b ^ t.length) b, ← Nat.mul_assoc]
      exact Nat.mul_le_mul_right _ (by omega)
    · cases h
theorem dec_long {p : List UInt8} (h : 4 < p.length) : dec p = none := dec_none_of fun n hn => by
  obtain ⟨h0, h1, h2, h3⟩ := dec_some hn
  cases p with
  | nil => simp at h
  | cons c t =>
    have hc := h3 c (List.mem_cons_self ..)
    rw [vgo, if_pos hc] at h1
    have h4 := vgo_mulR 10 t _ _ h1
    have h5 : 10 ^ 4 ≤ 10 ^ t.length := Nat.pow_le_pow_right (by decide) (by simp at h; omega)
    have hz : dv c ≠ 0 := fun e => by
      obtain rfl := dv_zero e
      cases t with
      | nil => simp at h
      | cons d t => rw [show (48 : UInt8) :: d :: t = [48] ++ d :: t from rfl, dec_zero] at hn; cases hn
    have h6 : 1 * 10 ^ t.length ≤ (0 * 10 + dv c) * 10 ^ t.length := Nat.mul_le_mul_right _ (by omega)
    omega

/-! What is answered, with what has been read. -/
def done : Option Nat → List Nat → Option (List Nat)
  | some k, zs => if zs.length ≤ 8 then some (zs.take k ++ List.replicate (8 - zs.length) 0 ++ zs.drop k) else none
  | none, zs => if zs.length = 8 then some zs else none
theorem done_long {sh : Option Nat} {zs : List Nat} (h : 8 < zs.length) : done sh zs = none := by
  cases sh with
  | none => rw [done, if_neg (by omega)]
  | some k => rw [done, if_neg (by omega)]
def ansB (k : Nat) (xs : List Nat) (r : List UInt8) : Option (List Nat) := (rd true (prt r)).bind fun y => done (some k) (xs ++ y)
def ansA (xs : List Nat) (r : List UInt8) : Option (List Nat) := match cutg [58, 58] r with
  | none => (rd true (prt r)).bind fun y => done none (xs ++ y)
  | some p => (rd false (prt p.1)).bind fun x => ansB ((xs ++ x).length + 1) (xs ++ x ++ [0]) p.2
def ans (sh : Option Nat) (xs : List Nat) (r : List UInt8) : Option (List Nat) := match sh with
  | some k => ansB k xs r
  | none => if r.head? = some 58 then ansB (xs.length + 1) (xs ++ [0]) r.tail else ansA xs r
theorem prs_ansA (l : List UInt8) : prs l = ansA [] l := by
  unfold prs ansA
  cases h : cutg [58, 58] l with
  | none =>
    simp only
    unfold rdt
    cases rd true (prt l) with
    | none => rfl
    | some x =>
      simp only [Option.bind_some, List.nil_append, done]
      by_cases h8 : x.length ≤ 8
      · rw [if_pos h8]
      · rw [if_neg h8, if_neg (by omega)]
  | some p =>
    simp only
    unfold rdt ansB
    cases rd false (prt p.1) with
    | none => rfl
    | some x =>
      simp only [Option.bind_some, List.nil_append]
      cases rd true (prt p.2) with
      | none => by_cases h : x.length ≤ 8 <;> simp [h]
      | some y =>
        simp only [Option.bind_some, done, List.length_append, List.length_singleton]
        by_cases h8 : x.length + y.length < 8
        · rw [if_pos (by omega), if_pos (by omega)]
          simp only
          rw [if_pos h8, if_pos (by omega), List.take_append_of_le_length (by simp), List.take_of_length_le (by simp), List.drop_append_of_le_length (by simp), List.drop_of_length_le (l := x ++ [0]) (by simp)]
          rw [List.nil_append, show 8 - x.length - y.length = (8 - (x.length + 1 + y.length)) + 1 by omega, List.replicate_succ]
          simp
        · rw [if_neg (show ¬ x.length + 1 + y.length ≤ 8 by omega)]
          by_cases hx : x.length ≤ 8
          · rw [if_pos hx]
            by_cases hy : y.length ≤ 8
            · rw [if_pos hy]
              simp only
              rw [if_neg h8]
            · rw [if_neg hy]
          · rw [if_neg hx]
theorem ans_nil (sh : Option Nat) (xs : List Nat) : ans sh xs [] = done sh xs := by
  cases sh with
  | none => show ansA xs [] = _; unfold ansA; rw [show cutg [58, 58] [] = none from rfl]; simp [prt, rd]
  | some k => show ansB k xs [] = _; unfold ansB; simp [prt, rd]
theorem spl_consR (l : List UInt8) : ∃ q r, spl l = q :: r := by
  cases h : spl l with
  | nil => exact absurd h (spl_ne l)
  | cons q r => exact ⟨q, r, rfl⟩
theorem rd_ne {emb : Bool} : ∀ {ps : List (List UInt8)} {y : List Nat}, ps ≠ [] → rd emb ps = some y → 1 ≤ y.length
  | [], _, h, _ => absurd rfl h
  | [p], y, _, h => by
    rw [rd] at h
    split at h
    · obtain ⟨a, b, c, d, _, _, rfl, _⟩ := four_some h
      simp
    · obtain ⟨a, _, rfl⟩ := Option.map_eq_some_iff.1 h
      simp
  | p :: q :: r, y, _, h => by
    rw [rd] at h
    obtain ⟨a, _, h⟩ := Option.bind_eq_some_iff.1 h
    obtain ⟨l, _, rfl⟩ := Option.map_eq_some_iff.1 h
    simp
theorem prt_ne {r : List UInt8} (h : r ≠ []) : prt r = spl r := by rw [prt, if_neg h]
theorem ansB_long {k : Nat} {xs : List Nat} {r : List UInt8} (h : 8 < xs.length) : ansB k xs r = none := by
  unfold ansB
  cases rd true (prt r) with
  | none => rfl
  | some y =>
    show done (some k) (xs ++ y) = none
    exact done_long (by rw [List.length_append]; omega)
/-- eight pieces, and more text -/
theorem ans_full {sh : Option Nat} {xs : List Nat} {r : List UInt8} (hr : r ≠ []) (h : xs.length = 8) : ans sh xs r = none := by
  have key : ∀ sh : Option Nat, ((rd true (prt r)).bind fun y => done sh (xs ++ y)) = none := fun sh => by
    cases hy : rd true (prt r) with
    | none => rfl
    | some y =>
      have := rd_ne (by rw [prt_ne hr]; exact spl_ne r) hy
      show done sh (xs ++ y) = none
      exact done_long (by rw [List.length_append]; omega)
  cases sh with
  | some k => exact key (some k)
  | none =>
    show (if r.head? = some 58 then ansB (xs.length + 1) (xs ++ [0]) r.tail else ansA xs r) = none
    split
    · exact ansB_long (by simp; omega)
    · unfold ansA
      cases cutg [58, 58] r with
      | none => exact key none
      | some p =>
        simp only
        cases rd false (prt p.1) with
        | none => rfl
        | some x => exact ansB_long (by simp; omega)
theorem spl_tail {p0 : List UInt8} (t : List UInt8) (h : (58 : UInt8) ∉ p0) : prt (p0 ++ 58 :: t) = p0 :: spl t := by
  rw [prt_ne (by simp), spl_app t p0 h]
theorem rd_tail (emb : Bool) {p0 : List UInt8} (t : List UInt8) (h : (58 : UInt8) ∉ p0) : rd emb (prt (p0 ++ 58 :: t)) = (pce p0).bind fun a => (rd emb (spl t)).map fun l => a :: l := by
  rw [spl_tail t h]
  obtain ⟨q, r, e⟩ := spl_consR t
  rw [e, rd]
theorem rd_nil (emb : Bool) : rd emb (spl []) = none := by
  show rd emb [[]] = none
  rw [rd, if_neg (by simp), pce_nil]
  rfl
/-- a colon that is no first one of two, with sh told -/
theorem ans_colon_none {xs : List Nat} {k : Nat} {t : List UInt8} : ans (some k) xs (58 :: t) = none := by
  show ansB k xs (58 :: t) = none
  have := rd_tail true (p0 := []) t (by simp)
  rw [List.nil_append] at this
  unfold ansB
  rw [this, pce_nil]
  rfl
theorem ans_colon_some {xs : List Nat} {t : List UInt8} : ans none xs (58 :: t) = ans (some (xs.length + 1)) (xs ++ [0]) t := rfl
theorem ansA_colon {xs : List Nat} {t : List UInt8} (h : t.head? ≠ some 58) : ansA xs (58 :: t) = none := by
  unfold ansA
  rw [nd_not (fun e => h e.2)]
  cases cutg [58, 58] t with
  | none =>
    have := rd_tail true (p0 := []) t (by simp)
    rw [List.nil_append] at this
    simp only [Option.map_none]
    rw [this, pce_nil]
    rfl
  | some p =>
    have := rd_tail false (p0 := []) p.1 (by simp)
    rw [List.nil_append] at this
    simp only [Option.map_some]
    rw [this, pce_nil]
    rfl
theorem ansA_two {t : List UInt8} : ansA [] (58 :: 58 :: t) = ans (some 1) [0] t := by
  unfold ansA
  rw [cut2_now]
  rfl
theorem head_app {p : List UInt8} (r : List UInt8) (h1 : p ≠ []) (h2 : (58 : UInt8) ∉ p) : ¬ (p ++ r).head? = some 58 := head_no r h1 h2
/-- a piece, a colon, and more -/
theorem ans_piece {sh : Option Nat} {xs : List Nat} {p t : List UInt8} {v : Nat} (hp : (58 : UInt8) ∉ p) (hv : pce p = some v) (ht : t ≠ []) : ans sh xs (p ++ 58 :: t) = ans sh (xs ++ [v]) t := by
  have hne := (pce_mem hv).1
  have hrd : ∀ (emb : Bool) (t : List UInt8), t ≠ [] → rd emb (prt (p ++ 58 :: t)) = (rd emb (prt t)).map fun l => v :: l := fun emb t ht => by
    rw [rd_tail emb t hp, hv, prt_ne ht]
    rfl
  have key : ∀ sh : Option Nat, ((rd true (prt (p ++ 58 :: t))).bind fun y => done sh (xs ++ y)) = ((rd true (prt t)).bind fun y => done sh (xs ++ [v] ++ y)) := fun sh => by
    rw [hrd true t ht]
    cases rd true (prt t) with
    | none => rfl
    | some y => simp
  cases sh with
  | some k => exact key (some k)
  | none =>
    show (if (p ++ 58 :: t).head? = some 58 then _ else ansA xs (p ++ 58 :: t)) = (if t.head? = some 58 then _ else ansA (xs ++ [v]) t)
    rw [if_neg (head_app _ hne hp)]
    by_cases h58 : t.head? = some 58
    · rw [if_pos h58]
      obtain ⟨u, rfl⟩ : ∃ u, t = 58 :: u := by
        cases t with
        | nil => cases h58
        | cons a u => exact ⟨u, by rw [Option.some.inj h58]⟩
      unfold ansA
      rw [cut2_walk _ hp, cut2_now]
      simp only [Option.map_some, List.append_nil, List.tail_cons]
      rw [prt_ne hne, spl_one p hp, rd, if_neg (by simp), hv]
      rfl
    · rw [if_neg h58]
      unfold ansA
      rw [cut2_walk _ hp, nd_not (fun e => h58 e.2)]
      cases hc : cutg [58, 58] t with
      | none => exact key none
      | some q =>
        have hq : q.1 ≠ [] := fun e => by
          have := cutg_app hc
          rw [e] at this
          rw [this] at h58
          exact h58 rfl
        simp only [Option.map_some]
        rw [hrd false q.1 hq]
        cases rd false (prt q.1) with
        | none => rfl
        | some x =>
          simp only [Option.map_some, Option.bind_some]
          rw [show xs ++ v :: x = xs ++ [v] ++ x by simp]
/-- a colon at the end -/
theorem ans_colon_end {sh : Option Nat} {xs : List Nat} {p : List UInt8} (hp : (58 : UInt8) ∉ p) (hne : p ≠ []) : ans sh xs (p ++ [58]) = none := by
  have key : rd true (prt (p ++ [58])) = none := by
    rw [rd_tail true [] hp, rd_nil]
    cases pce p <;> rfl
  cases sh with
  | some k => show ansB k xs _ = none; unfold ansB; rw [key]; rfl
  | none =>
    show (if (p ++ [58]).head? = some 58 then _ else ansA xs (p ++ [58])) = none
    rw [if_neg (head_app _ hne hp)]
    unfold ansA
    rw [cut2_walk _ hp, show cutg [58, 58] [58] = none from rfl]
    simp only [Option.map_none]
    rw [key]
    rfl
/-- the last piece -/
theorem ans_last {sh : Option Nat} {xs : List Nat} {p : List UInt8} (hp : (58 : UInt8) ∉ p) (hne : p ≠ []) : ans sh xs p = (rd true [p]).bind fun y => done sh (xs ++ y) := by
  have key : prt p = [p] := by rw [prt_ne hne, spl_one p hp]
  cases sh with
  | some k => show ansB k xs _ = _; unfold ansB; rw [key]
  | none =>
    show (if p.head? = some 58 then _ else ansA xs p) = _
    have := head_app [] hne hp
    rw [List.append_nil] at this
    rw [if_neg this]
    unfold ansA
    rw [nd_plain hp, key]
theorem ans_last_piece {sh : Option Nat} {xs : List Nat} {p : List UInt8} {v : Nat} (hp : (58 : UInt8) ∉ p) (hd : (46 : UInt8) ∉ p) (hv : pce p = some v) : ans sh xs p = done sh (xs ++ [v]) := by
  rw [ans_last hp (pce_mem hv).1, rd, if_neg (fun e => hd e.2), hv]
  rfl
/-- a first piece that is none -/
theorem ans_bad {sh : Option Nat} {xs : List Nat} {p t : List UInt8} (hp : (58 : UInt8) ∉ p) (hne : p ≠ []) (h1 : pce p = none) : ans sh xs (p ++ 58 :: t) = none := by
  have hrd : ∀ (emb : Bool) (t : List UInt8), rd emb (prt (p ++ 58 :: t)) = none := fun emb t => by rw [rd_tail emb t hp, h1]; rfl
  cases sh with
  | some k => show ansB k xs _ = none; unfold ansB; rw [hrd]; rfl
  | none =>
    show (if (p ++ 58 :: t).head? = some 58 then _ else ansA xs (p ++ 58 :: t)) = none
    rw [if_neg (head_app _ hne hp)]
    unfold ansA
    rw [cut2_walk _ hp]
    by_cases h58 : t.head? = some 58
    · obtain ⟨u, rfl⟩ : ∃ u, t = 58 :: u := by
        cases t with
        | nil => cases h58
        | cons a u => exact ⟨u, by rw [Option.some.inj h58]⟩
      rw [cut2_now]
      simp only [Option.map_some, List.append_nil]
      rw [prt_ne hne, spl_one p hp, rd, if_neg (by simp), h1]
      rfl
    · rw [nd_not (fun e => h58 e.2)]
      cases hc : cutg [58, 58] t with
      | none => simp only [Option.map_none]; rw [hrd]; rfl
      | some q => simp only [Option.map_some]; rw [hrd]; rfl
theorem parted (r : List UInt8) : ∃ p e, r = p ++ e ∧ (58 : UInt8) ∉ p ∧ (e = [] ∨ ∃ t, e = 58 :: t) := by
  by_cases h : (58 : UInt8) ∈ r
  · obtain ⟨a, b, e, hn⟩ := first_of h
    exact ⟨a, 58 :: b, e, hn, .inr ⟨b, rfl⟩⟩
  · exact ⟨r, [], by simp, h, .inl rfl⟩
theorem pre_of {a b p e : List UInt8} (h : a ++ b = p ++ e) (ha : (58 : UInt8) ∉ a) (he : e = [] ∨ ∃ t, e = 58 :: t) : ∃ f, p = a ++ f := by
  rcases he with rfl | ⟨t, rfl⟩
  · exact ⟨b, by simpa using h.symm⟩
  · have hl : a.length ≤ p.length := by
      rcases Nat.lt_or_ge p.length a.length with hlt | hge
      · exfalso
        have := congrArg (fun l => l[p.length]?) h
        simp only [List.getElem?_append_left hlt] at this
        rw [List.getElem?_append_right (Nat.le_refl _), Nat.sub_self, List.getElem?_cons_zero] at this
        exact ha (List.mem_of_getElem? this)
      · exact hge
    refine ⟨p.drop a.length, ?_⟩
    have := congrArg (fun l => l.take a.length) h
    simp only [List.take_left] at this
    rw [List.take_append_of_le_length hl] at this
    have h3 := List.take_append_drop a.length p
    rw [← this] at h3
    exact h3.symm
/-- a dot in the first piece: four, to the text's end -/
theorem ans_dot {sh : Option Nat} {xs : List Nat} {q t : List UInt8} (hq : (58 : UInt8) ∉ q) : ans sh xs (q ++ 46 :: t) = (four (q ++ 46 :: t)).bind fun y => done sh (xs ++ y) := by
  obtain ⟨p, e, hr, hp, he⟩ := parted (q ++ 46 :: t)
  have hq2 : (58 : UInt8) ∉ q ++ [46] := by simp only [List.mem_append, List.mem_singleton, not_or]; exact ⟨hq, by decide⟩
  have hr2 : (q ++ [46]) ++ t = p ++ e := by rw [← hr]; simp
  obtain ⟨f, hf⟩ := pre_of hr2 hq2 he
  have h46 : (46 : UInt8) ∈ p := by rw [hf]; simp
  have hne : p ≠ [] := fun e => by rw [e] at h46; cases h46
  rw [hr]
  rcases he with rfl | ⟨u, rfl⟩
  · rw [List.append_nil, ans_last hp hne, rd, if_pos ⟨rfl, h46⟩]
  · rw [ans_bad hp hne (pce_bad h46 (by decide))]
    have : four (p ++ 58 :: u) = none := by
      cases h : four (p ++ 58 :: u) with
      | none => rfl
      | some y =>
        obtain ⟨a, b, c, d, _, _, _, _, hk⟩ := four_some h
        rcases hk 58 (by simp) with h | h
        · exact absurd h (by decide)
        · exact absurd h (by decide)
    rw [this]
    rfl
theorem four_dot0 (t : List UInt8) : four (46 :: t) = none := by
  rw [four_nums]
  have : nums 4 (46 :: t) = none := by
    rw [nums]
    have h := cut1_app (c := 46) t (a := []) (by simp)
    rw [List.nil_append] at h
    rw [h]
    rfl
  rw [this]
  rfl
theorem done_six {sh : Option Nat} {xs : List Nat} {o : Option (List Nat)} (h : 6 < xs.length) (ho : ∀ y, o = some y → y.length = 2) : (o.bind fun y => done sh (xs ++ y)) = none := by
  cases o with
  | none => rfl
  | some y =>
    have := ho y rfl
    exact done_long (by rw [List.length_append]; omega)
theorem four_two {p y : _} (h : four p = some y) : y.length = 2 := by
  obtain ⟨a, b, c, d, _, _, rfl, _⟩ := four_some h
  rfl
/-- a byte that is none, behind digits, or a digit too many -/
theorem ans_stray {sh : Option Nat} {xs : List Nat} {q t : List UInt8} {c : UInt8} (hq : ∀ d ∈ q, dv d < 16) (hc : ¬ dv c < 16 ∨ 4 ≤ q.length) (h46 : c ≠ 46) (h58 : c ≠ 58) : ans sh xs (q ++ c :: t) = none := by
  obtain ⟨p, e, hr, hp, he⟩ := parted (q ++ c :: t)
  have hq58 : (58 : UInt8) ∉ q := fun h => absurd (hq 58 h) (by decide)
  have hq2 : (58 : UInt8) ∉ q ++ [c] := by simp only [List.mem_append, List.mem_singleton, not_or]; exact ⟨hq58, fun e => h58 e.symm⟩
  have hr2 : (q ++ [c]) ++ t = p ++ e := by rw [← hr]; simp
  obtain ⟨f, hf⟩ := pre_of hr2 hq2 he
  have hcp : c ∈ p := by rw [hf]; simp
  have hne : p ≠ [] := fun e => by rw [e] at hcp; cases hcp
  have h1 : pce p = none := by
    by_cases h : dv c < 16
    · have h4 : 4 ≤ q.length := hc.resolve_left (fun e => e h)
      unfold pce
      rw [if_pos (.inr (by rw [hf]; simp; omega))]
    · exact pce_bad hcp h
  have h2 : four p = none := by
    cases h : four p with
    | none => rfl
    | some y =>
      by_cases hd : dv c < 16
      · have h4 : 4 ≤ q.length := hc.resolve_left (fun e => e hd)
        rw [four_nums] at h
        rw [nums] at h
        have h46q : (46 : UInt8) ∉ q ++ [c] := by
          simp only [List.mem_append, List.mem_singleton, not_or]
          exact ⟨fun h => absurd (hq 46 h) (by decide), fun e => h46 e.symm⟩
        cases hcg : cutg [46] p with
        | none => rw [hcg] at h; cases h
        | some z =>
          rw [hf] at hcg
          obtain ⟨g, hg⟩ := cut1_pre h46q hcg
          rw [hf, hcg, Option.bind_some, dec_long (by rw [hg]; simp; omega)] at h
          cases h
      · obtain ⟨_, _, _, _, _, _, _, _, hk⟩ := four_some h
        rcases hk c hcp with h | h
        · exact absurd h hd
        · exact absurd h h46
  rw [hr]
  rcases he with rfl | ⟨u, rfl⟩
  · rw [List.append_nil, ans_last hp hne, rd]
    split
    · rw [h2]; rfl
    · rw [h1]; rfl
  · exact ans_bad hp hne h1
end Go.Proofs.YtcoppicieicikaaDoor.Sx
