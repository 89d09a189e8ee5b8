/-
  A map that counts codes; a byte's store into a row of the call's own.
-/
import Derived.Test.YteggchjehfkppaaMapBump
import Derived.Test.YteggchjehfkppaaUtfMath5
import Derived.Test.YteggchjehfkppaaAppendRow
namespace Go.Proofs.Yteggchjehfkppaa
open Go.RowKit Go.Maps Utf

abbrev Wf3 (x : T3) : Prop := (Lit.int .i32 x.1).wf = true ∧ (Lit.int .i64 x.2.1).wf = true ∧ (Lit.int .i64 x.2.2).wf = true
abbrev kx (x : T3) : Lit := kc x.1 x.2.1 x.2.2
abbrev ax (x : T3) : Value := .agg #[.int .i32 x.1, .int .i64 x.2.1, .int .i64 x.2.2]

theorem kx_inj {x y : T3} (hx : Wf3 x) (hy : Wf3 y) (h : kx x = kx y) : x = y := by
  have e1 := key_code x.1 x.2.1 x.2.2 hx.1 hx.2.1 hx.2.2
  have e2 := key_code y.1 y.2.1 y.2.2 hy.1 hy.2.1 hy.2.2
  rw [show kc y.1 y.2.1 y.2.2 = kc x.1 x.2.1 x.2.2 from h.symm] at e2
  have e3 := lawC.inj e1 e2
  simp only [Value.agg.injEq, Array.mk.injEq, List.cons.injEq, Value.int.injEq, and_true, true_and] at e3
  exact Prod.ext e3.1 (Prod.ext e3.2.1 e3.2.2)

/-- how often each code stands in l -/
def Cnt {H : Type} (l : List T3) (D : DataW H) : Prop := IsMap D ∧ ∀ x : T3, Wf3 x → D.atKey (kx x) (.lit (.int .i64 0)) = .lit (.int .i64 ((l.count x : Nat) : Int))

theorem cnt_nil {H : Type} : Cnt (H := H) [] (.map []) := ⟨isMap_empty, fun _ _ => rfl⟩

theorem cnt_step {H : Type} {l : List T3} {D : DataW H} {x : T3} {c : Int} (h : Cnt l D) (hx : Wf3 x) (hc : D.atKey (kx x) (.lit (.int .i64 0)) = .lit (.int .i64 c)) :
    c = (l.count x : Nat) ∧ Cnt (l ++ [x]) (D.put (kx x) (.lit (.int .i64 (c + 1)))) := by
  have e := h.2 x hx
  rw [hc] at e
  have e1 : c = (l.count x : Nat) := (Lit.int.inj (DataW.lit.inj e)).2
  refine ⟨e1, h.1.put _ _, fun y hy => ?_⟩
  by_cases hxy : y = x
  · subst hxy
    rw [atKey_put_same h.1 ((Keyed.of_law lawC).key (key_code y.1 y.2.1 y.2.2 hy.1 hy.2.1 hy.2.2)), e1, List.count_append, List.count_singleton_self]
    rfl
  · rw [atKey_put_other (fun k => hxy (kx_inj hy hx k)), h.2 y hy, List.count_append, List.count_singleton, if_neg (by simpa using fun e => hxy e.symm)]
    rfl

/-- a row of the call's own with something in it -/
theorem own_known {w : World} {base : Nat} {e : TypeId} {size n : Nat} {v : Value} {xs : List Value} (h : w.ownsRow base e size v n xs) (hn : 0 < n) : ∃ g c, v = .slice (some ⟨g, 0, none⟩) n c ∧ n ≤ c ∧ c ≤ maxLen ∧ base ≤ g ∧ g < w.heap.size := by
  rcases h.2 with ⟨rfl, rfl⟩ | ⟨g, cap, cur, rfl, hb, hg, hc, hm, _⟩
  · omega
  · exact ⟨g, cap, rfl, hc, hm, hb, (Array.getElem?_eq_some_iff.1 hg).1⟩

theorem cl_set (k : IntKind) (l : List Int) (j : Nat) (x : Int) : (cl k l).set j (.int k x) = cl k (l.set j x) := by rw [cl, cl, List.map_set]

theorem below_mapKept {H : Type} {P : Program} {k : TypeId} {R : Value → Option (DataW H × List MemPlace)} {w w1 : World} {b n : Nat} {D : DataW H} (h : w.ownsMap P k R b n D) (hB : Below w.heap.size w w1) : w1.ownsMap P k R b n D :=
  h.kept (row := none) ⟨hB.os, hB.tape, hB.output, hB.size, fun j hj _ => hB.block j hj⟩ (by simp)

/-- a row beside a map that has been written -/
theorem row_mapTurned {H : Type} {P : Program} {k : TypeId} {R : Value → Option (DataW H × List MemPlace)} {w w1 : World} {b n : Nat} {D : DataW H} {A : Option Addr} {xs : List Value}
    (hm : w.ownsMap P k R b n D) (hg : w.grownBy w1 (some b)) (h : Row w w.heap.size A xs) : Row w1 w1.heap.size A xs := by
  rcases h with h | ⟨bb, o, h1, h2, h3⟩
  · exact .inl h
  · rcases Nat.eq_zero_or_pos xs.length with h0 | h0
    · exact .inl (List.eq_nil_of_length_eq_zero h0)
    · have hne : bb ≠ b := by
        rintro rfl
        obtain ⟨es, clock, hb, _⟩ := hm
        have h4 := h3 0 h0
        rw [List.getElem?_eq_getElem h0] at h4
        simp [World.cell?, hb] at h4
      refine .inr ⟨bb, o, h1, Nat.lt_of_lt_of_le h2 hg.size, fun j hj => ?_⟩
      rw [← h3 j hj]
      exact World.cell?_of_block (w := w) (hg.block bb h2 (by simpa using hne))

/-- the cells of an element of a row of codes -/
theorem cells3 {w : World} {b o : Nat} {l : List T3} {j : Nat} {x : T3} (hc : ∀ k, k < (c3 l).length → w.cell? ⟨b, o + k, none⟩ = (c3 l)[k]?) (hx : l[j]? = some x) :
    w.cell? ⟨b, o + j * 3, none⟩ = some (.int .i32 x.1) ∧ w.cell? ⟨b, o + j * 3 + 1, none⟩ = some (.int .i64 x.2.1) ∧ w.cell? ⟨b, o + j * 3 + 2, none⟩ = some (.int .i64 x.2.2) := by
  have hj : j < l.length := (List.getElem?_eq_some_iff.1 hx).1
  have hv : l[j] = x := (List.getElem?_eq_some_iff.1 hx).2
  obtain ⟨p0, p1, p2⟩ := c3_get l j hj
  rw [hv] at p0 p1 p2
  have q := c3_len l
  exact ⟨(hc _ (by omega)).trans p0, by have := (hc (j * 3 + 1) (by omega)).trans p1; rwa [← Nat.add_assoc] at this, by have := (hc (j * 3 + 2) (by omega)).trans p2; rwa [← Nat.add_assoc] at this⟩

/-- codes lie within 32 and 64 bits -/
theorem wf_tri {bs : List Int} (hb : Byt bs) (hl : bs.length ≤ 1000) {x : Cd} (hx : x ∈ codes bs) : Wf3 (tri x) := by
  have h := codes_from_le bs bs.length 0 (by omega) x (by rw [← codes_eq]; exact hx)
  have e := mem_cd bs bs.length 0 (by omega) x (by rw [← codes_eq]; exact hx)
  have hd := drop_ne h.2.1
  have hs := first_sca hd (hb.drop x.2.1)
  have e1 : x.1 = (firstC (bs.drop x.2.1)).1 := congrArg (fun z : Cd => z.1) e
  have e2 : x.2.2.1 = x.2.1 + (firstC (bs.drop x.2.1)).2.1 := congrArg (fun z : Cd => z.2.2.1) e
  have hl2 := first_len hd
  rw [List.length_drop] at hl2
  rw [← e1] at hs
  unfold sca at hs
  simp only [decide_eq_true_eq] at hs
  refine ⟨?_, ?_, ?_⟩
  · exact WalkArith.wf_i32 (by simp only [tri]; omega)
  · exact WalkArith.wf_i64 (by simp only [tri]; omega)
  · exact WalkArith.wf_i64 (by simp only [tri]; omega)

theorem count_one {bs : List Int} {x : Cd} (hx : x ∈ codes bs) : ((codes bs).map tri).count (tri x) = 1 := by
  have hnd : ((codes bs).map tri).Nodup := by
    rw [List.nodup_iff_pairwise_ne, List.pairwise_iff_getElem]
    intro i j hi hj hij h
    rw [List.length_map] at hi hj
    rw [List.getElem_map, List.getElem_map] at h
    have h2 : (((codes bs)[i].2.1 : Nat) : Int) = ((codes bs)[j].2.1 : Nat) := congrArg (fun z : T3 => z.2.1) h
    have := from_inj hi hj (by omega)
    omega
  rw [List.Nodup.count hnd, if_pos (List.mem_map_of_mem hx)]

end Go.Proofs.Yteggchjehfkppaa
