/-
  What the laws share: an address taken apart; the bytes of pieces put together.
-/
import Derived.Test.YtcoppicieicikaaDoorSixH
namespace Go.Proofs.YtcoppicieicikaaDoor.Sx
open Go.RowKit Go.Shelf

theorem eight {x : List Nat} (h : x.length = 8) : ∃ a b c d e f g i, x = [a, b, c, d, e, f, g, i] := by
  rcases x with _ | ⟨a, _ | ⟨b, _ | ⟨c, _ | ⟨d, _ | ⟨e, _ | ⟨f, _ | ⟨g, _ | ⟨i, _ | ⟨j, t⟩⟩⟩⟩⟩⟩⟩⟩⟩
  · simp at h
  · simp at h
  · simp at h
  · simp at h
  · simp at h
  · simp at h
  · simp at h
  · simp at h
  · exact ⟨a, b, c, d, e, f, g, i, rfl⟩
  · simp at h
theorem jn_mem : ∀ (ps : List (List UInt8)) (c : UInt8), c ∈ jn ps → c = 58 ∨ ∃ p ∈ ps, c ∈ p
  | [], c, h => by simp [jn_nil] at h
  | [p], c, h => by rw [jn_one] at h; exact .inr ⟨p, by simp, h⟩
  | p :: q :: r, c, h => by
    rw [jn_two] at h
    rcases List.mem_append.1 h with h | h
    · exact .inr ⟨p, List.mem_cons_self .., h⟩
    · rcases List.mem_cons.1 h with h | h
      · exact .inl h
      · rcases jn_mem (q :: r) c h with h | ⟨s, h1, h2⟩
        · exact .inl h
        · exact .inr ⟨s, List.mem_cons_of_mem _ h1, h2⟩
theorem Hx.eight {w : World} {B x0 x1 x2 x3 x4 x5 x6 x7 : Nat} (h : Hx w B [x0, x1, x2, x3, x4, x5, x6, x7]) : w.cell? ⟨B, 0, none⟩ = some (.int .u16 (x0 : Int)) ∧ w.cell? ⟨B, 1, none⟩ = some (.int .u16 (x1 : Int)) ∧ w.cell? ⟨B, 2, none⟩ = some (.int .u16 (x2 : Int)) ∧ w.cell? ⟨B, 3, none⟩ = some (.int .u16 (x3 : Int)) ∧ w.cell? ⟨B, 4, none⟩ = some (.int .u16 (x4 : Int)) ∧ w.cell? ⟨B, 5, none⟩ = some (.int .u16 (x5 : Int)) ∧ w.cell? ⟨B, 6, none⟩ = some (.int .u16 (x6 : Int)) ∧ w.cell? ⟨B, 7, none⟩ = some (.int .u16 (x7 : Int)) :=
  ⟨h.cell (k := 0) (by simp), h.cell (k := 1) (by simp), h.cell (k := 2) (by simp), h.cell (k := 3) (by simp), h.cell (k := 4) (by simp), h.cell (k := 5) (by simp), h.cell (k := 6) (by simp), h.cell (k := 7) (by simp)⟩
/-- strings.Join of texts that stand anywhere -/
theorem JoinAt (bk o n c : Nat) (xs : List ByteArray) (w : World) (hn : xs.length = n) (hcells : ∀ (j : Nat) x, xs[j]? = some x → w.cell? ⟨bk, o + j, none⟩ = some (.string x)) (hbk : bk < w.heap.size) (hN : n ≤ 1000) (hcap : n ≤ c)
    (hlen : (jn (xs.map dl)).length ≤ 1000000) : Calls Tryd.prog 19 #[.slice (some ⟨bk, o, none⟩) n c, .string ⟨#[58]⟩] w (Texts (jn (xs.map dl)) w) := by
  subst hn
  exact Any.strings_Join joinLaid joinLaid_x bk o c xs ⟨#[58]⟩ w hcells hbk (by omega) hcap (Nat.le_trans hlen (by decide))
theorem count_nd {l : List UInt8} (h : nd l) : ∀ fuel, Lib.countFrom [58, 58] fuel l = 0
  | 0 => rfl
  | fuel + 1 => by
    rw [Lib.countFrom, index_eq (by simp), h]
    rfl
theorem count_one {l : List UInt8} {p : List UInt8 × List UInt8} (h : cutg [58, 58] l = some p) (h2 : nd p.2) : Lib.count l [58, 58] = 1 := by
  have e := cutg_app h
  unfold Lib.count
  rw [Lib.countFrom, index_eq (by simp), h]
  have hne : ((p.1.length : Int) == -1) = false := by rw [beq_eq_false_iff_ne]; omega
  simp only
  rw [if_neg (by rw [hne]; decide), Int.toNat_natCast]
  have : l.drop (p.1.length + ([58, 58] : List UInt8).length) = p.2 := by
    rw [e, ← List.length_append, List.drop_left]
  rw [this, count_nd h2]
theorem count_none {l : List UInt8} (h : nd l) : Lib.count l [58, 58] = 0 := count_nd h _
theorem hx_gd {x : List Nat} (h : ∀ m ∈ x, m < 65536) : gd (hx x) := (tld_hx h).gd
theorem mem_take' {x : List Nat} (h : ∀ m ∈ x, m < 65536) (k : Nat) : ∀ m ∈ x.take k, m < 65536 := fun m hm => h m (List.mem_of_mem_take hm)
theorem mem_drop' {x : List Nat} (h : ∀ m ∈ x, m < 65536) (k : Nat) : ∀ m ∈ x.drop k, m < 65536 := fun m hm => h m (List.mem_of_mem_drop hm)
theorem count_shw {x : List Nat} (k n : Nat) (h16 : ∀ m ∈ x, m < 65536) : Lib.count (shw x k n) [58, 58] = min n 1 := by
  unfold shw
  split
  · rename_i h
    rw [count_none (nd_jn (hx_gd h16)), h]
    rfl
  · have := count_one (cut2_both (hx_gd (mem_take' h16 k)) (jn (hx (x.drop (k + n))))) (nd_jn (hx_gd (mem_drop' h16 (k + n))))
    rw [this]
    omega
/-- beside a run stands none -/
theorem run_edge {x : List Nat} {k n : Nat} (h : IsRun x k n) (hn : n ≠ 0) : (∀ i, i + 1 = k → nth x i ≠ 0) ∧ (∀ i, i = k + n → i < 8 → nth x i ≠ 0) := by
  rcases h with ⟨h1, _⟩ | ⟨h1, h2, h3, h4⟩
  · exact absurd h1 hn
  · refine ⟨fun i hi hz => ?_, fun i hi h8 hz => ?_⟩
    · refine h4 i (n + 1) (by omega) (by omega) (.inl (by omega)) fun j hj hj2 => ?_
      by_cases e : j = i
      · subst e; exact hz
      · exact h3 j (by omega) (by omega)
    · refine h4 k (n + 1) (by omega) (by omega) (.inl (by omega)) fun j hj hj2 => ?_
      by_cases e : j = i
      · subst e; exact hz
      · exact h3 j (by omega) (by omega)
theorem run_max {x : List Nat} {k n a m : Nat} (h : IsRun x k n) (hz : zr x a m) (ha : a + m ≤ 8) (hm : 1 < m) : m ≤ n ∧ (m = n → k ≤ a) := by
  rcases h with ⟨h1, h2, h3⟩ | ⟨h1, h2, h3, h4⟩
  · exact absurd hz (h3 a m hm ha)
  · refine ⟨Nat.le_of_not_lt fun hlt => h4 a m hm ha (.inl hlt) hz, fun e => Nat.le_of_not_lt fun hlt => h4 a m hm ha (.inr ⟨e, hlt⟩) hz⟩
end Go.Proofs.YtcoppicieicikaaDoor.Sx
