/-
  Appends of texts in a region that draws its order; the whole row and one text more.
-/
import Derived.Test.YtcoppicieicikaaDoorSixN
import Derived.Test.YtcoppicieicikaaDoorAppendStep
import Derived.Laws.BitsAllLaws
namespace Go.Proofs.YtcoppicieicikaaDoor.Sx
open Go.RowKit
section
variable {ops : Array Oper} {o : Oper} {a : Act} {K : Act → World → Prop} {Q : Exit → Act → World → Prop} {E : Prop}
theorem step_appT (w0 W : World) (hgd : o.guard = none) (s x : Operand) (ho : o.op = .call { callee := .builtin .append, args := #[s, x], argTypes := #[35, 35] })
    (v : Value) (n : Nat) (xs : List ByteArray) (hs : a.eval s = v) (hown : W.ownsRow w0.heap.size 9 1 v n (sc xs)) (hB : Below w0.heap.size w0 W)
    (A : Option Addr) (m c : Nat) (news : List ByteArray) (hx : a.eval x = .slice A m c) (hl : news.length = m) (hr : Row W W.heap.size A (sc news)) (q : Nat) (hq : n + m = q) (hnm : q ≤ 1000)
    (h : ∀ A' c' w', w'.ownsRow w0.heap.size 9 1 (.slice A' q c') q (sc (xs ++ news)) → W.grownBy w' v.ownBlock → Below w0.heap.size w0 w' → K (a.put o.dst (.slice A' q c')) w') :
    if Region.wanted o (yielded ops a.tmps) = true then Oper.wp Tryd.prog o a W K Q else E := by
  subst hq
  obtain ⟨i0, hi, hz0, hz1, hz2⟩ := info_split info_tx
  refine step_append_row W hgd s x 35 ho w0.heap.size 9 i0 (.string ByteArray.empty) 1 16 Tryd.underlying35 hi hz0 hz1 hz2 rfl (Nat.zero_lt_succ 0) v n (sc xs) hs hown W.heap.size A m c (sc news) hx (by simp [hl]) hr (one_sc _) (by unfold maxLen; omega) (by omega) hB.size ?_
  intro v' w' hO hg
  obtain ⟨A', c', rfl, _, _⟩ := own_form hO
  exact h A' c' w' (by rw [show sc (xs ++ news) = sc xs ++ sc news from List.map_append]; exact hO) hg (hB.grown hg hB.size (fun j e => (hown.lt j e).1))
end
theorem own_empty (w : World) (base : Nat) (e : TypeId) (hb : base ≤ w.heap.size) : (w.alloc (.cells #[] e)).ownsRow base e 1 (.slice (some ⟨w.heap.size, 0, none⟩) 0 0) 0 [] :=
  ⟨rfl, .inr ⟨w.heap.size, 0, #[], rfl, hb, heap_alloc_new w _, Nat.le_refl _, Nat.zero_le _, rfl, rfl⟩⟩
theorem own_drew {W : World} {b : Nat} {e : TypeId} {s n : Nat} {v : Value} {xs : List Value} (h : W.ownsRow b e s v n xs) : W.drew.ownsRow b e s v n xs := h
theorem row_far {W w' : World} {b Y : Nat} {xs : List Value} (hg : W.grownBy w' (some b)) (h : Row W W.heap.size (some ⟨Y, 0, none⟩) xs) (hne : Y ≠ b) : Row w' w'.heap.size (some ⟨Y, 0, none⟩) xs := by
  rcases h with h | ⟨b', o', hA, hb, hc⟩
  · exact .inl h
  · injection hA with hA
    injection hA with h1 h2
    subst h1
    subst h2
    refine .inr ⟨Y, 0, rfl, Nat.lt_of_lt_of_le hb hg.size, fun k hk => ?_⟩
    rw [World.cell?_of_block (w := W) (hg.block Y hb (by simpa using hne))]
    exact hc k hk
theorem row_new' (w : World) (cs : Array Value) (e : TypeId) (xs : List Value) (h : cs.toList = xs) : Row (w.alloc (.cells cs e)) (w.alloc (.cells cs e)).heap.size (some ⟨w.heap.size, 0, none⟩) xs := by
  rw [World.size_alloc]
  exact row_new w cs e xs h
/-- the first six texts -/
theorem TRow.row {w : World} {b o : Nat} {ps : List (List UInt8)} (h : TRow w b o ps) : Row w w.heap.size (some ⟨b, o, none⟩) (sc (ps.map bs)) :=
  .inr ⟨b, o, rfl, h.1, fun k hk => by
    rw [List.length_map, List.length_map] at hk
    have h1 : (ps.map bs)[k]? = some ((ps.map bs)[k]'(by simpa using hk)) := List.getElem?_eq_getElem _
    rw [h.2 k _ h1, List.getElem?_map, h1]
    rfl⟩
theorem fl_le {x : List Nat} (zs : List Nat) (h8 : x.length = 8) (h16 : ∀ m ∈ x, m < 65536) : ∀ p ∈ fl x zs 8, p.length ≤ 15 := fun p hp => by
  obtain ⟨i, hi, rfl⟩ := List.mem_map.1 hp
  have := List.mem_range.1 hi
  have := nht_len (nk zs i) (nth_le h16 (k := i) (by omega))
  omega
theorem ts_hN (b o N k c : Nat) (hk : k ≤ N) (hc : N ≤ c) (W : World) : (Instr.sliceAt 35 (.slice (some ⟨b, o, none⟩) N c) none (some (.int .i64 (k : Int))) none).run Tryd.prog W = .ok (.slice (some ⟨b, o, none⟩) k c) W := by
  rw [run_sliceAt_slice W 35 _ _ _ _ underS, run_slice_h W 35 _ N c underS .i64 (k : Int) (by omega) (by omega), elemS, sizeS]
  by_cases h : c = 0
  · simp [Result.andThen, sliced, h]
  · simp [Result.andThen, sliced, h, Addr.add]
theorem ts_lN (b o N l c : Nat) (hl : l ≤ N) (W : World) : (Instr.sliceAt 35 (.slice (some ⟨b, o, none⟩) N c) (some (.int .i64 (l : Int))) none none).run Tryd.prog W = .ok (.slice (some ⟨b, offc o l c, none⟩) (N - l) (c - l)) W := by
  rw [run_sliceAt_slice W 35 _ _ _ _ underS, run_slice_l W 35 _ N c underS .i64 (l : Int) (by omega) (by omega), elemS, sizeS]
  unfold offc
  by_cases h : c = l
  · simp [Result.andThen, sliced, h]
  · simp [Result.andThen, sliced, h, Addr.add]
theorem ts_sumN (b o N k n c : Nat) (hl : k + n ≤ N) (W : World) : (Instr.sliceAt 35 (.slice (some ⟨b, o, none⟩) N c) (some (.int .i64 ((k : Int) + (n : Int)))) none none).run Tryd.prog W = .ok (.slice (some ⟨b, offc o (k + n) c, none⟩) (N - (k + n)) (c - (k + n))) W := by
  have := ts_lN b o N (k + n) c hl W
  rw [show ((k + n : Nat) : Int) = (k : Int) + (n : Int) by simp] at this
  exact this
theorem and255 (a : Nat) (h : a < 65536) : bits .and .u16 (a : Int) 255 = (a : Int) % 256 := by
  rw [show (255 : Int) = ((255 : Nat) : Int) from rfl, u16_and_nat a 255 h (by decide), show (255 : Nat) = 2 ^ 8 - 1 from rfl, Nat.and_two_pow_sub_one_eq_mod]
  omega
theorem size_sum3 (a b : ByteArray) : (a ++ ⟨#[58, 58]⟩ ++ b).size = a.size + 2 + b.size := by
  rw [ByteArray.size_append, ByteArray.size_append]
  rfl
theorem jn_len15 : ∀ (ps : List (List UInt8)), (∀ p ∈ ps, p.length ≤ 15) → (jn ps).length ≤ 16 * ps.length
  | [], _ => by rw [jn_nil]; simp
  | [p], h => by
    have := h p (by simp)
    rw [jn_one]
    simp
    omega
  | p :: q :: r, h => by
    have h1 := h p (by simp)
    have h2 := jn_len15 (q :: r) fun x hx => h x (List.mem_cons_of_mem _ hx)
    rw [jn_two, List.length_append, List.length_cons]
    simp only [List.length_cons] at h2 ⊢
    omega
theorem nat_row {zs : List Int} (h : ∀ z ∈ zs, 0 ≤ z ∧ z ≤ 255) : ∃ ns : List Nat, (∀ n ∈ ns, n < 256) ∧ ns.length = zs.length ∧ zs.map (Value.int .u8) = cb ns := by
  refine ⟨zs.map Int.toNat, fun n hn => ?_, by simp, ?_⟩
  · obtain ⟨z, hz, rfl⟩ := List.mem_map.1 hn
    have := h z hz
    omega
  · rw [cb, List.map_map]
    refine List.map_congr_left fun z hz => ?_
    have := h z hz
    simp only [Function.comp]
    rw [Int.toNat_of_nonneg this.1]
end Go.Proofs.YtcoppicieicikaaDoor.Sx
