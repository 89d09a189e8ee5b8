/-
  Written-out forms of an address: noughts ahead, the last four bytes as numbers with dots.
-/
import Derived.Test.YtcoppicieicikaaDoorSixT
namespace Go.Proofs.YtcoppicieicikaaDoor.Sx
open Go.RowKit

/-- pieces that read as x, wherever a run of noughts within the first lim pieces is left out -/
def Lay (L : List (List UInt8)) (x : List Nat) (lim : Nat) : Prop :=
  gd L ∧ rd true L = some x ∧ ∀ k, k ≤ lim → rd false (L.take k) = some (x.take k) ∧ rd true (L.drop k) = some (x.drop k)
theorem gd.take' {ps : List (List UInt8)} (h : gd ps) (k : Nat) : gd (ps.take k) := fun x hx => h x (List.mem_of_mem_take hx)
theorem gd.drop' {ps : List (List UInt8)} (h : gd ps) (k : Nat) : gd (ps.drop k) := fun x hx => h x (List.mem_of_mem_drop hx)
theorem Lay.whole {L : List (List UInt8)} {x : List Nat} {lim : Nat} (h : Lay L x lim) (h8 : x.length = 8) : prs (jn L) = some x := prs_jn h.1 h.2.1 h8
theorem Lay.short {L : List (List UInt8)} {x : List Nat} {lim k m : Nat} (h : Lay L x lim) (h8 : x.length = 8) (hm : 1 ≤ m) (hk : k + m ≤ lim) (hl : lim ≤ 8) (hz : zr x k m) : prs (jn (L.take k) ++ 58 :: 58 :: jn (L.drop (k + m))) = some x := by
  have e := prs_two (h.1.take' k) (h.1.drop' (k + m)) (h.2.2 k (by omega)).1 (h.2.2 (k + m) hk).2 (by rw [List.length_take, List.length_drop, h8]; omega)
  rw [e, List.length_take, List.length_drop, h8, show 8 - min k 8 - (8 - (k + m)) = m by omega, cut_noughts h8 (by omega) hz]
theorem tld.lay {L : List (List UInt8)} {x : List Nat} (h : tld L x) : Lay L x 8 :=
  ⟨h.gd, h.rd true, fun k _ => ⟨(h.take k).rd false, (h.drop k).rd true⟩⟩
theorem tld_fl {x : List Nat} (zs : List Nat) (h8 : x.length = 8) (h16 : ∀ m ∈ x, m < 65536) : tld (fl x zs 8) x := by
  unfold tld fl
  rw [List.map_map]
  refine List.ext_getElem (by simp [h8]) fun i h1 h2 => ?_
  simp only [List.length_map, List.length_range] at h1
  simp only [List.getElem_map, List.getElem_range, Function.comp]
  rw [pce_nht _ (nth_le h16 (by omega))]
  rw [nth, List.getD, List.getElem?_eq_getElem (by omega)]
  rfl
theorem tld_cons {p : List UInt8} {ps : List (List UInt8)} {a : Nat} {y : List Nat} (h : tld (p :: ps) (a :: y)) : pce p = some a ∧ tld ps y := by
  unfold tld at h
  simp only [List.map_cons, List.cons.injEq] at h
  exact h
/-- the last piece says four bytes -/
theorem rd_end {E : List UInt8} {z : List Nat} (hE : four E = some z) (hd : (46 : UInt8) ∈ E) : ∀ {ps : List (List UInt8)} {y : List Nat}, tld ps y → rd true (ps ++ [E]) = some (y ++ z)
  | [], [], _ => by
    show rd true [E] = _
    rw [rd, if_pos ⟨rfl, hd⟩, hE]
    rfl
  | [], _ :: _, h => by cases h
  | _ :: _, [], h => by cases h
  | [p], a :: y, h => by
    obtain ⟨h1, h2⟩ := tld_cons h
    have := rd_end hE hd h2
    show rd true (p :: E :: []) = _
    rw [rd, h1]
    show (rd true ([] ++ [E])).map _ = _
    rw [this]
    rfl
  | p :: q :: r, a :: y, h => by
    obtain ⟨h1, h2⟩ := tld_cons h
    have := rd_end hE hd h2
    show rd true (p :: q :: (r ++ [E])) = _
    rw [rd, h1]
    show (rd true ((q :: r) ++ [E])).map _ = _
    rw [this]
    rfl
theorem lay_end {E : List UInt8} {z y : List Nat} {ps : List (List UInt8)} (hE : four E = some z) (hd : (46 : UInt8) ∈ E) (hg : E ≠ [] ∧ (58 : UInt8) ∉ E) (h : tld ps y) : Lay (ps ++ [E]) (y ++ z) ps.length :=
  ⟨h.gd.app (fun p hp => by obtain rfl := List.mem_singleton.1 hp; exact hg), rd_end hE hd h, fun k hk => by
    have hy := h.len
    refine ⟨?_, ?_⟩
    · rw [List.take_append_of_le_length hk, List.take_append_of_le_length (by omega)]
      exact (h.take k).rd false
    · rw [List.drop_append_of_le_length hk, List.drop_append_of_le_length (by omega)]
      exact rd_end hE hd (h.drop k)⟩
/-- four numbers with dots -/
def e4 (a b c d : Nat) : List UInt8 := digs 10 a ++ 46 :: (digs 10 b ++ 46 :: (digs 10 c ++ 46 :: digs 10 d))
theorem digs_no {n : Nat} {c : UInt8} (hc : 16 ≤ dv c) : c ∉ digs 10 n := fun h => by
  obtain ⟨d, hd, rfl⟩ := digs_mem (by decide) n _ h
  have := (dgB_ok (d := d) (by omega)).1
  omega
theorem cut_dot {p : List UInt8} (h : (46 : UInt8) ∉ p) (r : List UInt8) : cutg [46] (p ++ 46 :: r) = some (p, r) := cut1_app r h
theorem e4_ok {a b c d : Nat} (ha : a < 256) (hb : b < 256) (hc : c < 256) (hd : d < 256) : four (e4 a b c d) = some [a * 256 + b, c * 256 + d] ∧ (46 : UInt8) ∈ e4 a b c d ∧ (e4 a b c d ≠ [] ∧ (58 : UInt8) ∉ e4 a b c d) ∧ (e4 a b c d).length ≤ 15 := by
  have n46 : ∀ n, (46 : UInt8) ∉ digs 10 n := fun n => digs_no (by decide)
  have n58 : ∀ n, (58 : UInt8) ∉ digs 10 n := fun n => digs_no (by decide)
  have l3 : ∀ n, n < 256 → (digs 10 n).length ≤ 3 := fun n h => digs_len (b := 10) (by decide) 2 n (by omega)
  refine ⟨?_, by simp [e4], ⟨by simp [e4], by simp [e4, n58]⟩, ?_⟩
  · unfold e4 four
    rw [cut_dot (n46 a)]
    simp only [Option.bind_some]
    rw [cut_dot (n46 b)]
    simp only [Option.bind_some]
    rw [cut_dot (n46 c)]
    simp only [Option.bind_some]
    rw [dec_num ha, dec_num hb, dec_num hc, dec_num hd]
    rfl
  · have := l3 a ha
    have := l3 b hb
    have := l3 c hc
    have := l3 d hd
    simp only [e4, List.length_append, List.length_cons]
    omega
end Go.Proofs.YtcoppicieicikaaDoor.Sx
