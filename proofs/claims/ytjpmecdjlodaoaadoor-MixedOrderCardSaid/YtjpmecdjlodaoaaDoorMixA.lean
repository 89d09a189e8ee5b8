/-
  mixed: scripts and digits of a label as mathematics. No program here but the table.
-/
import Derived.Test.YtjpmecdjlodaoaaDoorRulA
namespace Go.Proofs.YtjpmecdjlodaoaaDoor.Mix
open Go.RowKit Ucd Rul

/-- a code point's script, and the system of its digits -/
def sc (r : Int) : Int := g (of r) 4
def dg (r : Int) : Int := g (of r) 5
theorem sd_tab : (List.range 166).all (fun i => decide (0 ≤ g (pr i) 4) && decide (g (pr i) 4 ≤ 11) && decide (0 ≤ g (pr i) 5) && decide (g (pr i) 5 ≤ 5)) = true := by decide +kernel
theorem sd_bd (r : Int) : (0 ≤ sc r ∧ sc r ≤ 11) ∧ 0 ≤ dg r ∧ dg r ≤ 5 := by
  unfold sc dg
  rcases of_cases r with ⟨i, hi, h1, h2, e⟩ | ⟨h, e⟩
  · rw [e]
    have := List.all_eq_true.1 sd_tab i (List.mem_range.2 hi)
    simp only [Bool.and_eq_true, decide_eq_true_eq] at this
    omega
  · rw [e]; decide
theorem sc_bd (r : Int) : 0 ≤ sc r ∧ sc r ≤ 11 := (sd_bd r).1
theorem dg_bd (r : Int) : 0 ≤ dg r ∧ dg r ≤ 5 := (sd_bd r).2

/-! Counts: twelve numbers. -/
def z12 : List Int := List.replicate 12 0
theorem z12_len : z12.length = 12 := List.length_replicate
theorem z12_get (s : Nat) (h : s < z12.length) : z12[s] = 0 := List.getElem_replicate ..
/-- those of these numbers are 0 -/
def wo (L : List Int) (ks : List Int) : List Int := ks.foldl (fun L s => L.set s.toNat 0) L
theorem wo_len (L ks : List Int) : (wo L ks).length = L.length := by
  unfold wo
  induction ks generalizing L with
  | nil => rfl
  | cons k t ih => rw [List.foldl_cons, ih, List.length_set]
theorem wo_snoc (L ks : List Int) (k : Int) : wo L (ks ++ [k]) = (wo L ks).set k.toNat 0 := by unfold wo; rw [List.foldl_append]; rfl
theorem wo_get (L ks : List Int) (s : Nat) (hs : s < L.length) : (wo L ks)[s]! = if ks.any (fun k => k.toNat == s) then 0 else L[s]! := by
  induction ks generalizing L with
  | nil => rfl
  | cons k t ih =>
    show (wo (L.set k.toNat 0) t)[s]! = _
    rw [ih _ (by simpa using hs), List.any_cons]
    by_cases h : t.any (fun k => k.toNat == s) = true
    · rw [if_pos h, if_pos (by rw [h]; simp)]
    · have h' : t.any (fun k => k.toNat == s) = false := by simpa using h
      rw [if_neg h, h', Bool.or_false, getElem!_pos _ s (by simpa using hs), List.getElem_set, getElem!_pos L s hs]
      by_cases hk : k.toNat = s
      · rw [if_pos hk, if_pos (by simpa using hk)]
      · rw [if_neg hk, if_neg (by simpa using hk)]
/-- which are not 0 -/
def pos (L : List Int) (s : Nat) : Bool := decide (0 < L[s]!)
/-- a set of scripts: rising -/
def scr (p : Nat → Bool) : List Int := ((List.range 12).filter p).map (fun s : Nat => (s : Int))
/-- no one but these -/
def only (p : Nat → Bool) (ks : List Int) : Bool := (List.range 12).all (fun s => !p s || ks.any (fun k => k.toNat == s))
def east (p : Nat → Bool) : Bool := only p [8, 9, 10] || only p [8, 11]
def tog (p : Nat → Bool) : Bool := decide ((scr p).length ≤ 1) || east p
def sub (p : Nat → Bool) (ks : List Int) : Nat → Bool := fun s => p s && !(ks.any (fun k => k.toNat == s))
def lv (p : Nat → Bool) : Int := if tog p = true then 2 else if east (sub p [2]) = true then 3 else 4
theorem pos_wo {L ks : List Int} (hL : L.length = 12) {s : Nat} (hs : s < 12) : pos (wo L ks) s = sub (pos L) ks s := by
  unfold pos sub
  rw [wo_get _ _ _ (by rw [hL]; exact hs)]
  by_cases h : ks.any (fun k => k.toNat == s) = true
  · rw [if_pos h, h]; simp
  · have h' : ks.any (fun k => k.toNat == s) = false := by simpa using h
    rw [if_neg h, h']
    simp only [Bool.not_false, Bool.and_true]
theorem only_congr {p q : Nat → Bool} (h : ∀ s, s < 12 → p s = q s) (ks : List Int) : only p ks = only q ks := by
  unfold only
  rw [Bool.eq_iff_iff, List.all_eq_true, List.all_eq_true]
  constructor
  · intro k s hs
    rw [← h s (List.mem_range.1 hs)]; exact k s hs
  · intro k s hs
    rw [h s (List.mem_range.1 hs)]; exact k s hs
theorem scr_congr {p q : Nat → Bool} (h : ∀ s, s < 12 → p s = q s) : scr p = scr q := by
  unfold scr
  rw [List.filter_congr (fun s hs => h s (List.mem_range.1 hs))]
theorem east_congr {p q : Nat → Bool} (h : ∀ s, s < 12 → p s = q s) : east p = east q := by
  unfold east
  rw [only_congr h, only_congr h]
theorem tog_congr {p q : Nat → Bool} (h : ∀ s, s < 12 → p s = q s) : tog p = tog q := by
  unfold tog
  rw [scr_congr h, east_congr h]
theorem lv_congr {p q : Nat → Bool} (h : ∀ s, s < 12 → p s = q s) : lv p = lv q := by
  unfold lv
  rw [tog_congr h, east_congr (p := sub p [2]) (q := sub q [2]) (fun s hs => by unfold sub; rw [h s hs])]
def Nn (L : List Int) : Prop := ∀ x ∈ L, 0 ≤ x ∧ x ≤ 1000000
theorem wo_nn {L : List Int} (h : Nn L) (ks : List Int) : Nn (wo L ks) := by
  unfold wo
  induction ks generalizing L with
  | nil => exact h
  | cons k t ih =>
    rw [List.foldl_cons]
    refine ih fun x hx => ?_
    rcases List.mem_or_eq_of_mem_set hx with hx | hx
    · exact h x hx
    · rw [hx]; omega
/-- what only says of counts -/
theorem wo_zero {L : List Int} (hL : L.length = 12) (hN : Nn L) (ks : List Int) : decide (wo L ks = z12) = only (pos L) ks := by
  have hl := wo_len L ks
  have hn := wo_nn hN ks
  rw [Bool.eq_iff_iff, decide_eq_true_eq]
  unfold only
  rw [List.all_eq_true]
  have key : ∀ s, s < 12 → ((!pos L s || ks.any (fun k => k.toNat == s)) = true ↔ (wo L ks)[s]! = 0) := fun s hs => by
    have hp := pos_wo (ks := ks) hL hs
    have hx := hn _ (mems (l := wo L ks) (i := s) (by omega))
    unfold sub at hp
    have e : (!pos L s || ks.any (fun k => k.toNat == s)) = !(pos (wo L ks) s) := by rw [hp]; cases pos L s <;> cases ks.any (fun k => k.toNat == s) <;> rfl
    rw [e]
    unfold pos
    rw [Bool.not_eq_true', decide_eq_false_iff_not]
    omega
  constructor
  · intro h s hs
    rw [key s (List.mem_range.1 hs), h]
    have hs := List.mem_range.1 hs
    rw [getElem!_pos z12 s (by rw [z12_len]; exact hs), z12_get]
  · intro h
    refine List.ext_getElem (by rw [hl, hL]; rfl) fun s h1 h2 => ?_
    have := (key s (by omega)).1 (h s (List.mem_range.2 (by omega)))
    rw [getElem!_pos _ s h1] at this
    rw [this, z12_get]

/-! What a label has. -/
def raw (l : List Int) : List Int := (List.range 12).map (fun s : Nat => (((l.map sc).count (s : Int) : Nat) : Int))
theorem raw_len (l : List Int) : (raw l).length = 12 := by simp [raw]
theorem raw_get (l : List Int) (s : Nat) (hs : s < 12) : (raw l)[s]! = (((l.map sc).count (s : Int) : Nat) : Int) := by
  rw [getElem!_pos _ s (by rw [raw_len]; exact hs)]
  simp [raw]
theorem raw_nil : raw [] = z12 := by decide
theorem raw_nn (l : List Int) (h : l.length ≤ 1000000) : Nn (raw l) := fun x hx => by
  obtain ⟨s, _, rfl⟩ := List.mem_map.1 hx
  have := List.count_le_length (a := (s : Int)) (l := l.map sc)
  rw [List.length_map] at this
  omega
theorem raw_step (l : List Int) (r : Int) : raw (l ++ [r]) = (raw l).set (sc r).toNat ((raw l)[(sc r).toNat]! + 1) := by
  have hb := sc_bd r
  rw [raw_get _ _ (by omega), show (((sc r).toNat : Nat) : Int) = sc r from by omega]
  refine List.ext_getElem (by simp [raw]) fun s h1 h2 => ?_
  rw [raw_len] at h1
  rw [List.getElem_set, ← getElem!_pos _ s (by rw [raw_len]; exact h1), raw_get _ s h1, ← getElem!_pos (raw l) s (by rw [raw_len]; exact h1), raw_get _ s h1, List.map_append, List.count_append, List.map_singleton, List.count_singleton]
  by_cases h : (sc r).toNat = s
  · have e : sc r = (s : Int) := by omega
    rw [if_pos h, e, if_pos (by simp)]
    omega
  · rw [if_neg h, if_neg (by simp; omega)]
    omega
def cn (l : List Int) : List Int := wo (raw l) [0, 1]
theorem cn_len (l : List Int) : (cn l).length = 12 := by unfold cn; rw [wo_len, raw_len]
theorem cn_nn (l : List Int) (h : l.length ≤ 1000000) : Nn (cn l) := wo_nn (raw_nn l h) _
/-- the scripts of a label, as a set -/
def sb (l : List Int) (s : Nat) : Bool := decide (2 ≤ s) && l.any (fun r => sc r == (s : Int))
theorem cn_pos (l : List Int) {s : Nat} (hs : s < 12) : pos (cn l) s = sb l s := by
  unfold cn
  rw [pos_wo (raw_len l) hs]
  unfold sub pos sb
  rw [raw_get _ _ hs]
  have e1 : ([0, 1].any fun (k : Int) => k.toNat == s) = !(decide (2 ≤ s)) := by
    rw [Bool.eq_iff_iff]
    simp
    omega
  rw [e1, Bool.not_not, Bool.and_comm]
  congr 1
  rw [Bool.eq_iff_iff, decide_eq_true_eq, List.any_eq_true]
  constructor
  · intro h
    have : 0 < (l.map sc).count (s : Int) := by omega
    obtain ⟨r, hr, e⟩ := List.mem_map.1 (List.count_pos_iff.1 this)
    exact ⟨r, hr, by simpa using e⟩
  · rintro ⟨r, hr, e⟩
    have : 0 < (l.map sc).count (s : Int) := List.count_pos_iff.2 (List.mem_map.2 ⟨r, hr, by simpa using e⟩)
    omega
def scripts (l : List Int) : List Int := scr (sb l)
def asc (l : List Int) : Bool := l.all (fun r => decide (0 ≤ r) && decide (r < 128))
def lev (l : List Int) : Int := if asc l = true then 1 else lv (sb l)
theorem scr_cn (l : List Int) : scr (pos (cn l)) = scripts l := scr_congr fun _ h => cn_pos l h
theorem lv_cn (l : List Int) : lv (pos (cn l)) = lv (sb l) := lv_congr fun _ h => cn_pos l h
/-- are all digits of one system? -/
def dgs (l : List Int) : Bool := l.all (fun a => l.all (fun b => dg a == 0 || dg b == 0 || dg a == dg b))
def chk (l : List Int) : Int := if lev l = 4 then 13 else if dgs l = false then 14 else 0
end Go.Proofs.YtjpmecdjlodaoaaDoor.Mix
