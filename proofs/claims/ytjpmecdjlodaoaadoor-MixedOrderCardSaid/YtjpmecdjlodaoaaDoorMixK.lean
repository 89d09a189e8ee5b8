/-
  fascialaw10.MixedOrder: rows of the call's own, parts of a row; an append of a region that draws its order.
-/
import Derived.Test.YtjpmecdjlodaoaaDoorMixJ
import Derived.Test.YtjpmecdjlodaoaaDoorAppendStep
namespace Go.Proofs.YtjpmecdjlodaoaaDoor.Mix
open Go.RowKit Go.Maps Ucd Rul

theorem own_drew {W : World} {b : Nat} {e : TypeId} {s n : Nat} {v : Value} {xs : List Value} (h : W.ownsRow b e s v n xs) : W.drew.ownsRow b e s v n xs := h
theorem own_none (w : World) (base : Nat) (e : TypeId) (hb : base ≤ w.heap.size) : (w.alloc (.cells #[] e)).ownsRow base e 1 (.slice (some ⟨w.heap.size, 0, none⟩) 0 0) 0 [] :=
  World.ownsRow_lit w #[] 0 hb (by unfold maxLen; omega) rfl
section
variable {ops : Array Oper} {o : Oper} {a : Act} {K : Act → World → Prop} {Q : Exit → Act → World → Prop} {E : Prop}
theorem step_app (w0 W : World) (hgd : o.guard = none) (s x : Operand) (ho : o.op = .call { callee := .builtin .append, args := #[s, x], argTypes := #[22, 22] })
    (v : Value) (n : Nat) (xs : List Int) (hs : a.eval s = v) (hown : W.ownsRow w0.heap.size 21 1 v n (cl .i32 xs)) (hB : Below w0.heap.size w0 W)
    (A : Option Addr) (m c : Nat) (news : List Int) (hx : a.eval x = .slice A m c) (hl : news.length = m) (hr : Row W W.heap.size A (cl .i32 news)) (q : Nat) (hq : n + m = q) (hnm : q ≤ 100000)
    (h : ∀ A' c' w', w'.ownsRow w0.heap.size 21 1 (.slice A' q c') q (cl .i32 (xs ++ news)) → Below w0.heap.size w0 w' → K (a.put o.dst (.slice A' q c')) w') :
    if Region.wanted o (yielded ops a.tmps) = true then Oper.wp Tryd.prog o a W K Q else E := by
  subst hq
  obtain ⟨i0, hi, hz0, hz1, hz2⟩ := info_split info_int32
  refine step_append_row W hgd s x 22 ho w0.heap.size 21 i0 (.int .i32 0) 1 4 Tryd.underlying22 hi hz0 hz1 hz2 rfl (Nat.zero_lt_succ 0) v n (cl .i32 xs) hs hown W.heap.size A m c (cl .i32 news) hx (by simp [hl]) hr (one_cl _ _) (by unfold maxLen; omega) (by omega) hB.size ?_
  intro v' w' hO hg
  obtain ⟨A', c', rfl, _, _⟩ := own_form hO
  exact h A' c' w' (by rw [cl32_app]; exact hO) (hB.grown hg hB.size (fun j e => (hown.lt j e).1))
end
theorem row_take {w : World} {B : Nat} {A : Option Addr} {l : List Int} (h : Row w B A (cl .i32 l)) (k : Nat) : Row w B A (cl .i32 (l.take k)) := by
  rcases h with h | ⟨b, o, hA, hb, hc⟩
  · have : l = [] := by simpa [cl] using h
    subst this
    exact .inl (by simp [cl])
  · refine .inr ⟨b, o, hA, hb, fun i hi => ?_⟩
    have hi' : i < k ∧ i < l.length := by rw [List.length_map, List.length_take] at hi; omega
    rw [hc i (by simp; omega), List.getElem?_map, List.getElem?_map, List.getElem?_take_of_lt hi'.1]
theorem row_drop {w : World} {B : Nat} {A : Option Addr} {l : List Int} (h : Row w B A (cl .i32 l)) {n cap k : Nat} (hn : l.length = n) (hk : k ≤ n) (hc : ¬ cap = k) : Row w B (Option.map (fun x => x.add k) A) (cl .i32 (l.drop k)) := by
  have h := (h.sub (l := k) (n := n - k) (cap := cap) (m := k) (by simp [hn]; omega) (fun _ => hc)).2 rfl
  rw [← List.map_drop, List.take_of_length_le (by simp [hn])] at h
  exact h
/-- the j-th part, and the scripts of those ahead -/
def pt (l : List Int) (k j : Nat) : List Int := if j = 0 then l.take k else l.drop k
def csJ (l : List Int) (k j : Nat) : List Int := if j = 0 then [] else if j = 1 then scripts (l.take k) else scripts (l.take k) ++ scripts (l.drop k)
theorem csJ_succ (l : List Int) (k : Nat) {j : Nat} (h : j < 2) : csJ l k (j + 1) = csJ l k j ++ scripts (pt l k j) := by
  have : j = 0 ∨ j = 1 := by omega
  rcases this with rfl | rfl <;> rfl
theorem csJ_len (l : List Int) (k j : Nat) : (csJ l k j).length ≤ 24 := by
  have h1 := scripts_len (l.take k)
  have h2 := scripts_len (l.drop k)
  unfold csJ
  split
  · simp
  · split
    · omega
    · rw [List.length_append]; omega
theorem pt_mem {l : List Int} {k j : Nat} : ∀ x ∈ pt l k j, x ∈ l := fun x hx => by
  unfold pt at hx
  split at hx
  · exact List.mem_of_mem_take hx
  · exact List.mem_of_mem_drop hx
/-- the block of both parts -/
def PB (w : World) (B : Nat) (A : Option Addr) (k cap : Nat) (A2 : Option Addr) (n2 c2 : Nat) : Prop := w.heap[B]? = some (.cells #[.slice A k cap, .slice A2 n2 c2] 22 (0, 0))
theorem PB.go {w w' : World} {B : Nat} {A : Option Addr} {k cap : Nat} {A2 : Option Addr} {n2 c2 : Nat} (h : PB w B A k cap A2 n2 c2) (hb : Below w.heap.size w w') : PB w' B A k cap A2 n2 c2 :=
  (hb.block B (Array.getElem?_eq_some_iff.1 h).1).trans h
theorem PB.part {w : World} {B : Nat} {A : Option Addr} {k cap : Nat} {A2 : Option Addr} {c2 n : Nat} (h : PB w B A k cap A2 (n - k) c2) {l : List Int} (hn : l.length = n) (hk : k ≤ n) (h1 : Row w w.heap.size A (cl .i32 l)) (h2 : Row w w.heap.size A2 (cl .i32 (l.drop k))) {j : Nat} (hj : j < 2) :
    ∃ Aj nj cj, w.cell? ⟨B, j, none⟩ = some (.slice Aj nj cj) ∧ Row w w.heap.size Aj (cl .i32 (pt l k j)) ∧ (pt l k j).length = nj ∧ nj ≤ n := by
  unfold PB at h
  have : j = 0 ∨ j = 1 := by omega
  rcases this with rfl | rfl
  · exact ⟨A, k, cap, by simp [World.cell?, h], row_take h1 k, by show (l.take k).length = k; rw [List.length_take]; omega, hk⟩
  · exact ⟨A2, n - k, c2, by simp [World.cell?, h], h2, by show (l.drop k).length = n - k; rw [List.length_drop]; omega, by omega⟩
theorem cm_map {w : World} {b n : Nat} {D : DataW Unit} (h : CM w b n D) : ∃ es clock, w.heap[b]? = some (.map es clock) := by
  obtain ⟨es, clock, h1, _⟩ := h
  exact ⟨es, clock, h1⟩
theorem row_grown {w w' : World} {b n : Nat} {D : DataW Unit} (hM : CM w b n D) (hg : w.grownBy w' (some b)) {A : Option Addr} {xs : List Int} (hr : Row w w.heap.size A (cl .u8 xs)) : Row w' w'.heap.size A (cl .u8 xs) := by
  obtain ⟨es, clock, hm⟩ := cm_map hM
  rcases hr with h | ⟨c, o, rfl, hc, hcell⟩
  · exact .inl h
  · refine .inr ⟨c, o, rfl, Nat.lt_of_lt_of_le hc hg.size, fun i hi => ?_⟩
    have h1 := hcell i hi
    rw [List.getElem?_eq_getElem hi] at h1 ⊢
    have hne : c ≠ b := fun e => by
      subst e
      unfold World.cell? at h1
      simp only [hm] at h1
      cases h1
    exact hg.cell h1 (fun e => hne (Option.some.inj e))
theorem PB.grown {w w' : World} {b n : Nat} {D : DataW Unit} (hM : CM w b n D) (hg : w.grownBy w' (some b)) {B : Nat} {A : Option Addr} {k cap : Nat} {A2 : Option Addr} {n2 c2 : Nat} (h : PB w B A k cap A2 n2 c2) : PB w' B A k cap A2 n2 c2 := by
  obtain ⟨es, clock, hm⟩ := cm_map hM
  have hne : B ≠ b := fun e => by
    subst e
    unfold PB at h
    rw [hm] at h
    cases h
  exact (hg.block B (Array.getElem?_eq_some_iff.1 h).1 (fun e => hne (Option.some.inj e))).trans h
end Go.Proofs.YtjpmecdjlodaoaaDoor.Mix
