/-
  FourLimits: as mathematics; the closure that puts a part in.
-/
import Derived.Test.YtpmdecdjlegcnaaDoorFourRD
import Derived.Test.YtpmdecdjlegcnaaDoorFourT
import Derived.Test.YtpmdecdjlegcnaaDoorFourI
import Derived.Test.YtpmdecdjlegcnaaDoorAppendStep
namespace Go.Proofs.YtpmdecdjlegcnaaDoor.Fou
open Go.RowKit

theorem rgo_bad {R m : Nat} : ∀ (ps : List (List UInt8)) (k : Nat) (hk : k < ps.length), num ps[k] = some m → ¬ m < (if k + 1 = ps.length then R else 256) → ∀ out, rgo R out ps = none
  | p :: t, 0, _, h, hm, out => by
    simp only [List.getElem_cons_zero] at h
    rw [rgo, h]
    have e : (if t = [] then R else 256) = (if 0 + 1 = (p :: t).length then R else 256) := by cases t <;> simp
    show (if m < (if t = [] then R else 256) then rgo R (out * (if t = [] then R else 256) + m) t else none) = none
    rw [if_neg (by rw [e]; exact hm)]
  | p :: t, k + 1, hk, h, hm, out => by
    simp only [List.getElem_cons_succ] at h
    rw [rgo]
    cases num p with
    | none => rfl
    | some q =>
      show (if q < (if t = [] then R else 256) then rgo R (out * (if t = [] then R else 256) + q) t else none) = none
      have := rgo_bad t k (by simpa using hk) h (by simpa using hm) (out * (if t = [] then R else 256) + q)
      rw [this]
      exact ite_self none
theorem rgo_good {R : Nat} : ∀ (ps : List (List UInt8)), (∀ (k : Nat) (hk : k < ps.length), ∃ m, num ps[k] = some m ∧ m < (if k + 1 = ps.length then R else 256)) → ∀ out, ∃ x, rgo R out ps = some x
  | [], _, out => ⟨out, rfl⟩
  | p :: t, h, out => by
    obtain ⟨m, h1, h2⟩ := h 0 (by simp)
    simp only [List.getElem_cons_zero] at h1
    have e : (if t = [] then R else 256) = (if 0 + 1 = (p :: t).length then R else 256) := by cases t <;> simp
    obtain ⟨x, hx⟩ := rgo_good t (fun k hk => by
      obtain ⟨q, g1, g2⟩ := h (k + 1) (by simpa using hk)
      exact ⟨q, by simpa using g1, by simpa using g2⟩) (out * (if t = [] then R else 256) + m)
    refine ⟨x, ?_⟩
    rw [rgo, h1]
    show (if m < (if t = [] then R else 256) then rgo R (out * (if t = [] then R else 256) + m) t else none) = _
    rw [if_pos (by rw [e]; exact h2), hx]
/-- the bytes, the lowest first -/
def lo (x i : Nat) : Nat := x / 256 ^ i % 256
def lows (x n : Nat) : List (List UInt8) := (List.range n).map fun i => digs 10 (lo x i)
theorem lows_len (x n : Nat) : (lows x n).length = n := by simp [lows]
theorem lo_lt (x i : Nat) : lo x i < 256 := Nat.mod_lt _ (by decide)
theorem lows_get {x n i : Nat} (h : i < (lows x n).length) : (lows x n)[i] = digs 10 (lo x i) := by simp [lows]
theorem lows_succ (x n : Nat) : lows x (n + 1) = lows x n ++ [digs 10 (lo x n)] := by simp [lows, List.range_succ]
def roomOf (n k : Nat) : Nat := if k + 1 = n then 256 ^ (5 - n) else 256
theorem set_no {x n k : Nat} {p : List UInt8} (hp : (46 : UInt8) ∉ p) : ∀ q ∈ (lows x n).set k p, (46 : UInt8) ∉ q := by
  intro q hq
  rcases List.mem_or_eq_of_mem_set hq with h | h
  · simp only [lows, List.mem_map] at h
    obtain ⟨i, _, rfl⟩ := h
    exact digs_no (by decide) (by decide) _
  · rw [h]; exact hp
theorem set_last {x n k : Nat} {p : List UInt8} (h1 : 1 ≤ n) (hp : p ≠ [] ∨ k + 1 < n) : ((lows x n).set k p).getLast? ≠ some [] := by
  rw [List.getLast?_eq_getElem?, List.length_set, lows_len, List.getElem?_set]
  split
  · rename_i h
    rw [if_pos (by rw [lows_len]; omega)]
    rcases hp with hp | hp
    · simpa using hp
    · omega
  · rw [List.getElem?_eq_getElem (by rw [lows_len]; omega), lows_get]
    simpa using digs_ne _ _
theorem ans_set {x n k : Nat} {p : List UInt8} (h1 : 1 ≤ n) (h4 : n ≤ 4) (hp : (46 : UInt8) ∉ p) (hl : p ≠ [] ∨ k + 1 < n) : ans (Lib.join ((lows x n).set k p) [46]) = rgo (256 ^ (5 - n)) 0 ((lows x n).set k p) := by
  have hlen : ((lows x n).set k p).length = n := by rw [List.length_set, lows_len]
  rw [ans_join _ (fun e => by rw [e] at hlen; simp at hlen; omega) (set_no hp) (set_last h1 hl), rgo_prs hlen h1 h4]
theorem set_none {x n k m : Nat} {p : List UInt8} (h1 : 1 ≤ n) (h4 : n ≤ 4) (hk : k < n) (hp : (46 : UInt8) ∉ p) (hn : num p = some m) (hm : roomOf n k ≤ m) : ans (Lib.join ((lows x n).set k p) [46]) = none := by
  have hne : p ≠ [] := fun e => by rw [e] at hn; cases hn
  have hlen : ((lows x n).set k p).length = n := by rw [List.length_set, lows_len]
  rw [ans_set h1 h4 hp (.inl hne)]
  refine rgo_bad _ k (by omega) (by rw [List.getElem_set_self]; exact hn) ?_ 0
  rw [hlen]
  unfold roomOf at hm
  omega
theorem set_bad {x n k : Nat} {p : List UInt8} (h1 : 1 ≤ n) (h4 : n ≤ 4) (hk : k < n) (hp : (46 : UInt8) ∉ p) (hl : p ≠ [] ∨ k + 1 < n) (hn : num p = none) : ans (Lib.join ((lows x n).set k p) [46]) = none := by
  rw [ans_set h1 h4 hp hl]
  exact rgo_none hn _ _ _ (List.mem_set (by rw [lows_len]; exact hk) _)
theorem set_some {x n k m : Nat} {p : List UInt8} (h1 : 1 ≤ n) (h4 : n ≤ 4) (_ : k < n) (hp : (46 : UInt8) ∉ p) (hn : num p = some m) (hm : m < roomOf n k) : (ans (Lib.join ((lows x n).set k p) [46])).isSome = true := by
  have hne : p ≠ [] := fun e => by rw [e] at hn; cases hn
  have hlen : ((lows x n).set k p).length = n := by rw [List.length_set, lows_len]
  rw [ans_set h1 h4 hp (.inl hne)]
  have hR := bnd_R h1 h4 rfl
  obtain ⟨y, hy⟩ := rgo_good (R := 256 ^ (5 - n)) ((lows x n).set k p) (fun i hi => by
    by_cases hik : k = i
    · subst hik
      refine ⟨m, by rw [List.getElem_set_self]; exact hn, ?_⟩
      rw [hlen]
      unfold roomOf at hm
      exact hm
    · refine ⟨lo x i, ?_, ?_⟩
      · rw [List.getElem_set_ne hik, lows_get, digs_num, cap_of (by have := lo_lt x i; omega)]
      · have := lo_lt x i
        split <;> omega) 0
  rw [hy]
  rfl
theorem join_len : ∀ (ps : List (List UInt8)), (∀ q ∈ ps, q.length ≤ 30) → (Lib.join ps [46]).length ≤ 31 * ps.length
  | [], _ => by simp [Lib.join, List.intercalate]
  | [p], h => by rw [Lib.join_one]; have := h p (by simp); simp; omega
  | p :: q :: r, h => by
    have e : Lib.join (p :: q :: r) [46] = p ++ 46 :: Lib.join (q :: r) [46] := by simp [Lib.join, List.intercalate]
    have h1 := join_len (q :: r) (fun x hx => h x (List.mem_cons_of_mem _ hx))
    have h2 := h p (List.mem_cons_self ..)
    rw [e, List.length_append, List.length_cons]
    simp only [List.length_cons] at h1 ⊢
    omega
theorem set_len {x n k : Nat} {p : List UInt8} (h4 : n ≤ 4) (hp : p.length ≤ 30) : (Lib.join ((lows x n).set k p) [46]).length ≤ 1000000 := by
  have h : ∀ q ∈ (lows x n).set k p, q.length ≤ 30 := by
    intro q hq
    rcases List.mem_or_eq_of_mem_set hq with h | h
    · simp only [lows, List.mem_map] at h
      obtain ⟨i, _, rfl⟩ := h
      have := digs_len (b := 10) (by decide) 2 (lo x i) (Nat.lt_of_lt_of_le (lo_lt _ _) (by decide))
      omega
    · rw [h]; exact hp
  exact Nat.le_trans (join_len _ h) (by rw [List.length_set, lows_len]; omega)

theorem own_at {w : World} {base n c : Nat} {A : Option Addr} {xs : List ByteArray} (h : w.ownsRow base 9 1 (.slice A n c) n (sc ([] ++ xs))) (hn : 0 < n) : ∃ g, A = some ⟨g, 0, none⟩ ∧ (base ≤ g ∧ g < w.heap.size) ∧ (∀ k, k < n → w.cell? ⟨g, k, none⟩ = (sc xs)[k]?) ∧ ∀ k, w.frozen? ⟨g, k, none⟩ = false := by
  have h0 := h
  rcases h.2 with ⟨_, h2⟩ | ⟨g, cap, cur, hv, hb, hg, _, _, _, _⟩
  · omega
  · injection hv with h1 _ h3
    subst h1 h3
    refine ⟨g, rfl, ⟨hb, (Array.getElem?_eq_some_iff.1 hg).1⟩, fun k hk => ?_, fun k => by simp [World.frozen?, hg]⟩
    exact h0.cellAt k (by omega)
set_option maxRecDepth 100000 in
set_option maxHeartbeats 4000000 in
theorem with_any (p : ByteArray) (K L n k c : Nat) (A : Option Addr) (xs : List ByteArray) (w : World) (hn : xs.length = n) (hk : k < n) (h4 : n ≤ 4) (hL : w.cell? ⟨L, 0, none⟩ = some (.slice A n c)) (hK : w.cell? ⟨K, 0, none⟩ = some (.int .i64 (k : Int))) (hLl : L < w.heap.size) (hKl : K < w.heap.size) (hr : Row w w.heap.size A (sc xs))
    (hlen : (Lib.join ((xs.map dl).set k (dl p)) [46]).length ≤ 1000000) :
    Calls Tryd.prog 23 #[.string p, .pointer (some ⟨L, 0, none⟩), .pointer (some ⟨K, 0, none⟩)] w (Texts (Lib.join ((xs.map dl).set k (dl p)) [46]) w) := by
  have HN := Lib.hid hn
  have HLe := Lib.hid hlen
  have hB0 := (Below.refl w.heap.size w).alloc (Nat.le_refl _) (.cells #[] 9)
  have hL0 : (w.alloc (.cells #[] 9)).cell? ⟨L, 0, none⟩ = some (.slice A n c) := by rw [World.cell?_alloc_lt _ _ _ hLl]; exact hL
  have ho0 : (w.alloc (.cells #[] 9)).ownsRow w.heap.size 9 1 (.slice (some ⟨w.heap.size, 0, none⟩) 0 0) 0 (sc []) := World.ownsRow_lit w #[] 0 (Nat.le_refl _) (by unfold maxLen; omega) rfl
  have hr0 : Row (w.alloc (.cells #[] 9)) (w.alloc (.cells #[] 9)).heap.size A (sc xs) := (hr.alloc (Nat.le_refl _) _).mono (by simp)
  have HR := Lib.hid hr0
  have HO := Lib.hid ho0
  have HB0 := Lib.hid hB0
  clear hn hlen hr hr0 ho0 hB0 hL
  go_enter Tryd.func23, Tryd.ntmps23
  go_wp2_with (first | (at_builtin; refine wpList_appR w.heap.size _ rfl _ _ rfl _ 0 n [] xs rfl HO.out (by simp) A n c rfl HN.out HR.out (by omega) (by omega) ?_; intro A' c' w' hO' hB'; have hK' : w'.cell? ⟨K, 0, none⟩ = some (.int .i64 (k : Int)) := (hB'.cell (p := ⟨K, 0, none⟩) hKl).trans ((World.cell?_alloc_lt _ _ _ hKl).trans hK); obtain ⟨g, rfl, hg1, hg2, hg3⟩ := own_at hO' (by omega); have hgk := hg2 k (by omega); have hgf := hg3 k; have hgk2 : w'.cell? ⟨g, k, none⟩ = some (.string (xs[k]'(by rw [HN.out]; omega))) := hgk.trans (by rw [List.getElem?_map, List.getElem?_eq_getElem (by rw [HN.out]; omega)]; rfl); have HG2 := Lib.hid hg2; clear hg2 hg3 hgk) | fail)
  have hcap := own_cap hO'
  have hlen2 : (xs.set k p).length = n := by rw [List.length_set, HN.out]
  have hmap : (xs.set k p).map dl = (xs.map dl).set k (dl p) := List.map_set
  have hJ := Join_any g c' (xs.set k p) (w'.setCell ⟨g, k, none⟩ (.string p)) (fun j x hx => by
    have hj : j < n := by rw [← hlen2]; exact (List.getElem?_eq_some_iff.1 hx).1
    by_cases hjk : k = j
    · subst hjk
      rw [List.getElem?_set_self (by rw [HN.out]; omega)] at hx
      obtain rfl := Option.some.inj hx
      exact World.cell?_setCell_same _ _ _ hgk2
    · rw [List.getElem?_set_ne hjk] at hx
      rw [World.cell?_setCell_other _ _ _ _ (by intro e; injection e; omega), HG2.out j hj, List.getElem?_map, hx]
      rfl) (by simpa [World.setCell] using hg1.2) (by omega) (by omega) (by rw [hmap]; exact HLe.out)
  rw [hlen2, hmap] at hJ
  have HJ := Lib.hid hJ
  clear hJ hmap hlen2 hgk2 hgf hO'
  go_wp2_with fail
  refine HJ.out.mono ?_
  rintro e w3 ⟨rfl, hB3⟩
  go_wp2_with fail
  go_ret
  refine ⟨rfl, ?_⟩
  exact ((HB0.out.trans hB').setCell (p := ⟨g, k, none⟩) hg1.1 _).trans (hB3.mono (by have := hB'.size; simp [World.setCell] at this ⊢; omega))
end Go.Proofs.YtpmdecdjlegcnaaDoor.Fou
