/-
  six, as mathematics: digits of a number; the run; what is shown is read as the same.
-/
import Derived.Test.YtcoppicieicikaaDoorSixA
import Derived.Lib.ItoaNum
namespace Go.Proofs.YtcoppicieicikaaDoor.Sx

def dgB (d : Nat) : UInt8 := if d < 10 then UInt8.ofNat (48 + d) else UInt8.ofNat (87 + d)
/-- the digits of a number, to a base -/
def digs (b n : Nat) : List UInt8 := if _h : n < b ∨ b < 2 then [dgB n] else digs b (n / b) ++ [dgB (n % b)]
termination_by n
decreasing_by exact Nat.div_lt_self (by omega) (by omega)
theorem digs_lt {b n : Nat} (h : n < b) : digs b n = [dgB n] := by rw [digs, dif_pos (.inl h)]
theorem digs_ge {b n : Nat} (hb : 2 ≤ b) (h : ¬ n < b) : digs b n = digs b (n / b) ++ [dgB (n % b)] := by rw [digs, dif_neg (by omega)]
theorem dgB_all : ∀ d : Fin 16, dv (dgB d.val) = d.val ∧ dv (Lib.upperB (dgB d.val)) = d.val ∧ (dgB d.val = 48 → d.val = 0) ∧ (dgB d.val).toNat < 128 ∧ Lib.upperB (dgB d.val) ≠ 58 := by decide
theorem dgB_ok {d : Nat} (h : d < 16) : dv (dgB d) = d ∧ dv (Lib.upperB (dgB d)) = d ∧ (dgB d = 48 → d = 0) ∧ (dgB d).toNat < 128 ∧ Lib.upperB (dgB d) ≠ 58 := dgB_all ⟨d, h⟩
theorem digs_ne (b n : Nat) : digs b n ≠ [] := by
  rw [digs]
  split <;> simp
theorem digs_mem {b : Nat} (hb : 2 ≤ b) : ∀ (n : Nat), ∀ c ∈ digs b n, ∃ d, d < b ∧ c = dgB d := by
  intro n
  induction n using Nat.strongRecOn with
  | _ n ih =>
    intro c hc
    by_cases h : n < b
    · rw [digs_lt h, List.mem_singleton] at hc
      exact ⟨n, h, hc⟩
    · rw [digs_ge hb h] at hc
      rcases List.mem_append.1 hc with h1 | h1
      · exact ih (n / b) (Nat.div_lt_self (by omega) (by omega)) c h1
      · rw [List.mem_singleton] at h1
        exact ⟨n % b, Nat.mod_lt _ (by omega), h1⟩
theorem digs_val {b : Nat} (hb : 2 ≤ b) (hb16 : b ≤ 16) : ∀ n, vgo b 0 (digs b n) = some n := by
  intro n
  induction n using Nat.strongRecOn with
  | _ n ih =>
    by_cases h : n < b
    · rw [digs_lt h, vgo, (dgB_ok (by omega : n < 16)).1, if_pos h, vgo, Nat.zero_mul, Nat.zero_add]
    · have hm : n % b < b := Nat.mod_lt _ (by omega)
      rw [digs_ge hb h, vgo_app, ih (n / b) (Nat.div_lt_self (by omega) (by omega))]
      show vgo b (n / b) [dgB (n % b)] = _
      rw [vgo, (dgB_ok (by omega : n % b < 16)).1, if_pos hm, vgo, Nat.mul_comm, Nat.div_add_mod]
theorem vgo_map {f : UInt8 → UInt8} (b : Nat) : ∀ (l : List UInt8) (n : Nat), (∀ c ∈ l, dv (f c) = dv c) → vgo b n (l.map f) = vgo b n l
  | [], _, _ => rfl
  | c :: t, n, h => by
    rw [List.map_cons, vgo, vgo, h c (List.mem_cons_self ..)]
    split
    · exact vgo_map b t _ (fun x hx => h x (List.mem_cons_of_mem _ hx))
    · rfl
theorem vgo_nought (b : Nat) (hb : 2 ≤ b) (l : List UInt8) : ∀ k, vgo b 0 (List.replicate k 48 ++ l) = vgo b 0 l
  | 0 => by simp
  | k + 1 => by
    rw [List.replicate_succ, List.cons_append, vgo, show dv 48 = 0 by decide, if_pos (by omega), Nat.zero_mul, Nat.zero_add]
    exact vgo_nought b hb l k
theorem digs_head {b : Nat} (hb : 2 ≤ b) (hb16 : b ≤ 16) : ∀ n, (digs b n).head? = some 48 → n = 0 := by
  intro n
  induction n using Nat.strongRecOn with
  | _ n ih =>
    intro h
    by_cases hn : n < b
    · rw [digs_lt hn] at h
      exact (dgB_ok (by omega : n < 16)).2.2.1 (Option.some.inj h)
    · have hd : (digs b (n / b) ++ [dgB (n % b)]).head? = (digs b (n / b)).head? := by
        cases hq : digs b (n / b) with
        | nil => exact absurd hq (digs_ne b (n / b))
        | cons a t => rfl
      rw [digs_ge hb hn, hd] at h
      have h0 := ih (n / b) (Nat.div_lt_self (by omega) (by omega)) h
      have := Nat.div_eq_zero_iff.1 h0
      omega
theorem dec_digs : ∀ n, Lib.decDigits n = digs 10 n := by
  intro n
  induction n using Nat.strongRecOn with
  | _ n ih =>
    rw [Lib.decDigits]
    by_cases h : n < 10
    · rw [dif_pos h, digs_lt h, dgB, if_pos h]
    · rw [dif_neg h, digs_ge (by decide) h, ih (n / 10) (Nat.div_lt_self (by omega) (by decide)), dgB, if_pos (Nat.mod_lt _ (by decide))]
theorem digs_len {b : Nat} (hb : 2 ≤ b) : ∀ (k n : Nat), n < b ^ (k + 1) → (digs b n).length ≤ k + 1
  | 0, n, h => by
    rw [digs_lt (by simpa using h)]
    simp
  | k + 1, n, h => by
    by_cases hn : n < b
    · rw [digs_lt hn]; simp
    · rw [digs_ge hb hn, List.length_append, List.length_singleton]
      have := digs_len hb k (n / b) (by rw [Nat.div_lt_iff_lt_mul (by omega), ← Nat.pow_succ]; exact h)
      omega
theorem digs_pos (b n : Nat) : 1 ≤ (digs b n).length := List.length_pos_iff.2 (digs_ne b n)
theorem hex_len {n : Nat} (h : n < 65536) : (digs 16 n).length ≤ 4 := digs_len (b := 16) (by decide) 3 n h
/-- a piece with noughts ahead -/
def nht (k n : Nat) : List UInt8 := List.replicate (min k (4 - (digs 16 n).length)) 48 ++ digs 16 n
theorem nht_zero (n : Nat) : nht 0 n = digs 16 n := by simp [nht]
theorem nht_len (k : Nat) {n : Nat} (h : n < 65536) : (nht k n).length ≤ 4 := by
  have := hex_len h
  rw [nht, List.length_append, List.length_replicate]
  omega
theorem pce_nht (k : Nat) {n : Nat} (h : n < 65536) : pce (nht k n) = some n := by
  unfold pce
  rw [if_neg]
  · rw [nht, vgo_nought 16 (by decide), digs_val (by decide) (by decide)]
  · rintro (e | e)
    · exact digs_ne 16 n (List.append_eq_nil_iff.1 e).2
    · have := nht_len k h
      omega
theorem pce_hex {n : Nat} (h : n < 65536) : pce (digs 16 n) = some n := by rw [← nht_zero]; exact pce_nht 0 h
theorem pce_up {n : Nat} (h : n < 65536) : pce (Lib.toUpperA (digs 16 n)) = some n := by
  have hl : (Lib.toUpperA (digs 16 n)).length = (digs 16 n).length := List.length_map _
  unfold pce
  rw [if_neg]
  · rw [Lib.toUpperA, vgo_map 16 _ 0 fun c hc => ?_, digs_val (by decide) (by decide)]
    obtain ⟨d, hd, rfl⟩ := digs_mem (by decide) n c hc
    rw [(dgB_ok hd).1, (dgB_ok hd).2.1]
  · rintro (e | e)
    · rw [e] at hl
      have := digs_pos 16 n
      simp at hl
      omega
    · have := hex_len h
      omega
theorem dec_num {n : Nat} (h : n < 256) : dec (digs 10 n) = some n := by
  unfold dec
  rw [if_neg]
  · rw [digs_val (by decide) (by decide)]
    simp only
    rw [if_pos h]
  · rintro (e | ⟨e1, e2⟩)
    · exact digs_ne 10 n e
    · have := digs_head (b := 10) (by decide) (by decide) n e2
      subst this
      rw [digs_lt (by decide)] at e1
      simp at e1

/-- a row of noughts -/
def zr (x : List Nat) (k n : Nat) : Prop := ∀ i, k ≤ i → i < k + n → x.getD i 1 = 0
/-- longer, or as long and ahead -/
def Bef (k' n' k n : Nat) : Prop := n < n' ∨ (n' = n ∧ k' < k)
/-- the run of an address -/
def IsRun (x : List Nat) (k n : Nat) : Prop :=
  (n = 0 ∧ k = 0 ∧ ∀ k' n', 2 ≤ n' → k' + n' ≤ 8 → ¬ zr x k' n') ∨ (2 ≤ n ∧ k + n ≤ 8 ∧ zr x k n ∧ ∀ k' n', 2 ≤ n' → k' + n' ≤ 8 → Bef k' n' k n → ¬ zr x k' n')
theorem IsRun.same {x : List Nat} {k n k' n' : Nat} (h : IsRun x k n) (h' : IsRun x k' n') : k = k' ∧ n = n' := by
  rcases h with ⟨h1, h2, h3⟩ | ⟨h1, h2, h3, h4⟩
  · rcases h' with ⟨g1, g2, g3⟩ | ⟨g1, g2, g3, g4⟩
    · omega
    · exact absurd g3 (h3 k' n' g1 g2)
  · rcases h' with ⟨g1, g2, g3⟩ | ⟨g1, g2, g3, g4⟩
    · exact absurd h3 (g3 k n h1 h2)
    · by_cases hb : Bef k' n' k n
      · exact absurd g3 (h4 k' n' g1 g2 hb)
      · by_cases hb' : Bef k n k' n'
        · exact absurd h3 (g4 k n h1 h2 hb')
        · unfold Bef at hb hb'
          omega
theorem IsRun.exists (x : List Nat) : ∃ k n, IsRun x k n := by
  by_cases h : ∃ m, ∃ k' n', (2 ≤ n' ∧ k' + n' ≤ 8) ∧ (m = 8 * (8 - n') + k' ∧ zr x k' n')
  · have hw : ∀ m, (∃ k' n', (2 ≤ n' ∧ k' + n' ≤ 8) ∧ (m = 8 * (8 - n') + k' ∧ zr x k' n')) → ∃ k n, IsRun x k n := by
      intro m
      induction m using Nat.strongRecOn with
      | _ m ih =>
        rintro ⟨k, n, ⟨h1, h2⟩, h3, h4⟩
        by_cases hb : ∃ k' n', (2 ≤ n' ∧ k' + n' ≤ 8) ∧ (Bef k' n' k n ∧ zr x k' n')
        · obtain ⟨k', n', ⟨g1, g2⟩, g3, g4⟩ := hb
          exact ih (8 * (8 - n') + k') (by unfold Bef at g3; omega) ⟨k', n', ⟨g1, g2⟩, rfl, g4⟩
        · exact ⟨k, n, .inr ⟨h1, h2, h4, fun k' n' g1 g2 g3 g4 => hb ⟨k', n', ⟨g1, g2⟩, g3, g4⟩⟩⟩
    obtain ⟨m, hm⟩ := h
    exact hw m hm
  · exact ⟨0, 0, .inl ⟨rfl, rfl, fun k' n' h1 h2 h3 => h ⟨_, k', n', ⟨h1, h2⟩, rfl, h3⟩⟩⟩

/-- the pieces of numbers, as text -/
def hx (x : List Nat) : List (List UInt8) := x.map (digs 16)
/-- an address, as it is shown -/
def shw (x : List Nat) (k n : Nat) : List UInt8 := if n = 0 then jn (hx x) else jn (hx (x.take k)) ++ 58 :: 58 :: jn (hx (x.drop (k + n)))
/-- pieces that are told as these numbers -/
def tld (ps : List (List UInt8)) (x : List Nat) : Prop := ps.map pce = x.map some
theorem tld.gd {ps : List (List UInt8)} {x : List Nat} (h : tld ps x) : gd ps := gd_pieces h
theorem tld.rd {ps : List (List UInt8)} {x : List Nat} (emb : Bool) (h : tld ps x) : rd emb ps = some x := rd_pieces emb h
theorem tld.take {ps : List (List UInt8)} {x : List Nat} (h : tld ps x) (k : Nat) : tld (ps.take k) (x.take k) := by
  unfold tld at h ⊢
  rw [List.map_take, List.map_take, h]
theorem tld.drop {ps : List (List UInt8)} {x : List Nat} (h : tld ps x) (k : Nat) : tld (ps.drop k) (x.drop k) := by
  unfold tld at h ⊢
  rw [List.map_drop, List.map_drop, h]
theorem tld.len {ps : List (List UInt8)} {x : List Nat} (h : tld ps x) : ps.length = x.length := by
  have := congrArg List.length h
  simpa using this
theorem tld_hx {x : List Nat} (h : ∀ n ∈ x, n < 65536) : tld (hx x) x := by
  unfold tld hx
  rw [List.map_map]
  exact List.map_congr_left fun n hn => pce_hex (h n hn)
theorem tld_up {x : List Nat} (h : ∀ n ∈ x, n < 65536) : tld ((hx x).map Lib.toUpperA) x := by
  unfold tld hx
  rw [List.map_map, List.map_map]
  exact List.map_congr_left fun n hn => pce_up (h n hn)
/-- a row of noughts, left out -/
theorem cut_noughts {x : List Nat} {k n : Nat} (h8 : x.length = 8) (hk : k + n ≤ 8) (hz : zr x k n) : x.take k ++ List.replicate n 0 ++ x.drop (k + n) = x := by
  refine List.ext_getElem? fun i => ?_
  rw [List.getElem?_append, List.getElem?_append]
  simp only [List.length_append, List.length_take, List.length_replicate, h8, List.getElem?_take, List.getElem?_drop, List.getElem?_replicate]
  have hm : min k 8 = k := by omega
  rw [hm]
  by_cases h1 : i < k
  · rw [if_pos (by omega), if_pos h1, if_pos h1]
  · by_cases h2 : i < k + n
    · rw [if_pos h2, if_neg h1, if_pos (by omega)]
      have := hz i (by omega) h2
      rw [List.getD, List.getElem?_eq_getElem (by omega)] at this
      rw [List.getElem?_eq_getElem (by omega)]
      simpa using this.symm
    · rw [if_neg h2, show k + n + (i - (k + n)) = i by omega]
/-- eight pieces, a row of noughts of which is left out -/
theorem prs_short {ps : List (List UInt8)} {x : List Nat} {k n : Nat} (h : tld ps x) (h8 : x.length = 8) (hn : 1 ≤ n) (hk : k + n ≤ 8) (hz : zr x k n) : prs (jn (ps.take k) ++ 58 :: 58 :: jn (ps.drop (k + n))) = some x := by
  have e := prs_two (h.gd.take k) (h.gd.drop (k + n)) ((h.take k).rd false) ((h.drop (k + n)).rd true) (by rw [List.length_take, List.length_drop, h8]; omega)
  rw [e, List.length_take, List.length_drop, h8, show 8 - min k 8 - (8 - (k + n)) = n by omega, cut_noughts h8 hk hz]
theorem prs_whole {ps : List (List UInt8)} {x : List Nat} (h : tld ps x) (h8 : x.length = 8) : prs (jn ps) = some x := prs_jn h.gd (h.rd true) h8
theorem prs_shw {x : List Nat} {k n : Nat} (h8 : x.length = 8) (hx16 : ∀ m ∈ x, m < 65536) (h : IsRun x k n) : prs (shw x k n) = some x := by
  unfold shw
  have ht := tld_hx hx16
  split
  · exact prs_whole ht h8
  · rename_i hn
    rcases h with ⟨h1, _⟩ | ⟨h1, h2, h3, h4⟩
    · exact absurd h1 hn
    · have := prs_short ht h8 (by omega) h2 h3
      rw [show hx (x.take k) = (hx x).take k from List.map_take .., show hx (x.drop (k + n)) = (hx x).drop (k + n) from List.map_drop ..]
      exact this
theorem up_jn : ∀ ps : List (List UInt8), Lib.toUpperA (jn ps) = jn (ps.map Lib.toUpperA)
  | [] => rfl
  | [p] => by rw [jn_one, List.map_singleton, jn_one]
  | p :: q :: r => by
    rw [jn_two, Lib.toUpperA, List.map_append, List.map_cons, List.map_cons, List.map_cons, jn_two]
    have ih := up_jn (q :: r)
    rw [List.map_cons] at ih
    rw [← ih]
    rfl
theorem prs_up {x : List Nat} {k n : Nat} (h8 : x.length = 8) (hx16 : ∀ m ∈ x, m < 65536) (h : IsRun x k n) : prs (Lib.toUpperA (shw x k n)) = some x := by
  unfold shw
  have ht := tld_up hx16
  split
  · rw [up_jn]
    exact prs_whole ht h8
  · rename_i hn
    rcases h with ⟨h1, _⟩ | ⟨h1, h2, h3, h4⟩
    · exact absurd h1 hn
    · have := prs_short ht h8 (by omega) h2 h3
      rw [← List.map_take, ← List.map_drop, show (hx x).take k = hx (x.take k) from (List.map_take ..).symm, show (hx x).drop (k + n) = hx (x.drop (k + n)) from (List.map_drop ..).symm, ← up_jn, ← up_jn] at this
      rw [Lib.toUpperA, List.map_append, List.map_cons, List.map_cons]
      exact this
theorem jn_len : ∀ (ps : List (List UInt8)), (∀ p ∈ ps, p.length ≤ 4) → (jn ps).length ≤ 5 * ps.length - 1
  | [], _ => Nat.le_refl _
  | [p], h => by rw [jn_one]; have := h p (by simp); simp; omega
  | p :: q :: r, h => by
    have h1 := h p (by simp)
    have h2 := jn_len (q :: r) (fun x hx => h x (List.mem_cons_of_mem _ hx))
    rw [jn_two, List.length_append, List.length_cons]
    simp only [List.length_cons] at h2 ⊢
    omega
theorem hx_len {x : List Nat} (h : ∀ m ∈ x, m < 65536) : ∀ p ∈ hx x, p.length ≤ 4 := by
  intro p hp
  obtain ⟨n, hn, rfl⟩ := List.mem_map.1 hp
  exact hex_len (h n hn)
theorem jn_ge : ∀ (ps : List (List UInt8)), gd ps → 2 * ps.length - 1 ≤ (jn ps).length
  | [], _ => Nat.le_refl _
  | [p], h => by rw [jn_one]; have := List.length_pos_iff.2 h.head.1; simp; omega
  | p :: q :: r, h => by
    have h1 := List.length_pos_iff.2 h.head.1
    have h2 := jn_ge (q :: r) h.tail
    rw [jn_two, List.length_append, List.length_cons]
    simp only [List.length_cons] at h2 ⊢
    omega
theorem shw_len {x : List Nat} {k n : Nat} (h8 : x.length = 8) (hx16 : ∀ m ∈ x, m < 65536) (h : IsRun x k n) : 2 ≤ (shw x k n).length ∧ (shw x k n).length ≤ 39 := by
  unfold shw
  split
  · have h1 := jn_len (hx x) (hx_len hx16)
    have h2 := jn_ge (hx x) (tld_hx hx16).gd
    rw [show (hx x).length = 8 by rw [hx, List.length_map, h8]] at h1 h2
    omega
  · rename_i hn
    rcases h with ⟨h1, _⟩ | ⟨h1, h2, h3, h4⟩
    · exact absurd h1 hn
    · have g1 := jn_len (hx (x.take k)) (hx_len fun m hm => hx16 m (List.mem_of_mem_take hm))
      have g2 := jn_len (hx (x.drop (k + n))) (hx_len fun m hm => hx16 m (List.mem_of_mem_drop hm))
      rw [hx, List.length_map, List.length_take, h8] at g1
      rw [hx, List.length_map, List.length_drop, h8] at g2
      rw [List.length_append, List.length_cons, List.length_cons]
      unfold hx
      omega
end Go.Proofs.YtcoppicieicikaaDoor.Sx
