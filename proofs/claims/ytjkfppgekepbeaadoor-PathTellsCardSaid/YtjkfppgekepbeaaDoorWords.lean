/-
  Words for memory: a slice's cells read as a list; small laws on worlds.
-/
import Derived.Below
import Derived.Laws.OwnMore
import Derived.Maps.AppendAt
import Derived.Deep.Draws
import Derived.OpenShut
import Derived.Laws.Rows
import Derived.RangeFuncBox
import Derived.WalkKit
namespace Go.Proofs.YtjkfppgekepbeaaDoor
set_option maxRecDepth 100000
open Go.RowKit

/-- A leads to the cells xs, in a block below B; nothing is asked of A where xs is empty -/
def Row (w : World) (B : Nat) (A : Option Addr) (xs : List Value) : Prop :=
  xs = [] ∨ ∃ b o, A = some ⟨b, o, none⟩ ∧ b < B ∧ ∀ k, k < xs.length → w.cell? ⟨b, o + k, none⟩ = xs[k]?

section
variable {w w' : World} {B B' : Nat} {A : Option Addr} {xs : List Value}

theorem Row.empty : Row w B A [] := .inl rfl
theorem Row.keep (h : Row w B A xs) (hk : ∀ b o, b < B → w'.cell? ⟨b, o, none⟩ = w.cell? ⟨b, o, none⟩) : Row w' B A xs := by
  rcases h with h | ⟨b, o, hA, hb, hc⟩
  · exact .inl h
  · exact .inr ⟨b, o, hA, hb, fun k hkl => (hk b _ hb).trans (hc k hkl)⟩
theorem Row.mono (h : Row w B A xs) (hB : B ≤ B') : Row w B' A xs := by
  rcases h with h | ⟨b, o, hA, hb, hc⟩
  · exact .inl h
  · exact .inr ⟨b, o, hA, by omega, hc⟩
theorem Row.below (h : Row w B A xs) (hb : Below B w w') : Row w' B A xs := h.keep fun b o hlt => hb.cell (p := ⟨b, o, none⟩) hlt
theorem Row.alloc (h : Row w B A xs) (hB : B ≤ w.heap.size) (o : Obj) : Row (w.alloc o) B A xs := h.below ((Below.refl B w).alloc hB o)
theorem Row.drewN (h : Row w B A xs) (n : Nat) : Row (w.drewN n) B A xs := h.keep fun _ _ _ => rfl
theorem Row.drew (h : Row w B A xs) : Row w.drew B A xs := h.keep fun _ _ _ => rfl
/-- where there is an element, the address is known -/
theorem Row.at_ (h : Row w B A xs) (hp : 0 < xs.length) : ∃ b o, A = some ⟨b, o, none⟩ ∧ b < B ∧ ∀ k, k < xs.length → w.cell? ⟨b, o + k, none⟩ = xs[k]? := by
  rcases h with rfl | h
  · simp at hp
  · exact h
theorem Row.of_own {base : Nat} {e : TypeId} {size n c : Nat} (h : w.ownsRow base e size (.slice A n c) n xs) : Row w w.heap.size A xs := by
  rcases Nat.eq_zero_or_pos xs.length with h0 | h0
  · exact .inl (List.eq_nil_of_length_eq_zero h0)
  · rcases h.2 with ⟨_, h2⟩ | ⟨g, cap, cur, hv, _, hg, _, _, _, ht⟩
    · have := h.1; rw [h2] at this; omega
    · have hA : A = some ⟨g, 0, none⟩ := by injection hv
      refine .inr ⟨g, 0, hA, (Array.getElem?_eq_some_iff.1 hg).1, fun k hk => ?_⟩
      subst hA
      obtain rfl : c = cap := by injection hv
      rw [Nat.zero_add]
      exact h.cellAt k (by rw [← h.1]; exact hk)
/-- a slice from place l on, up to place h -/
theorem Row.sub (h : Row w B A xs) {l n cap m : Nat} (hl : l + n ≤ xs.length) (hc : 0 < n → cap ≠ l) :
    Row w B (if cap = l then A else A.map (·.add l)) ((xs.drop l).take n) ∧ (m = l → Row w B (A.map (·.add m)) ((xs.drop l).take n)) := by
  rcases Nat.eq_zero_or_pos n with rfl | hn
  · simp [Row.empty]
  · obtain ⟨b, o, rfl, hb, hcell⟩ := h.at_ (by omega)
    have key : Row w B ((some ⟨b, o, none⟩ : Option Addr).map (·.add l)) ((xs.drop l).take n) := by
      refine .inr ⟨b, o + l, ?_, hb, fun k hk => ?_⟩
      · simp only [Option.map_some, Addr.add]
        split
        · rename_i e; rw [e]; rfl
        · rfl
      · rw [List.length_take, List.length_drop] at hk
        rw [List.getElem?_take, if_pos (by omega), List.getElem?_drop, Nat.add_assoc]
        exact hcell _ (by omega)
    exact ⟨by rw [if_neg (hc hn)]; exact key, fun e => by rw [e]; exact key⟩

theorem grown_of_own {base : Nat} {e : TypeId} {size n : Nat} {v : Value} {xs : List Value} (h : w.ownsRow base e size v n xs) {k : Nat} (hk : v.ownBlock = some k) : base ≤ k := (h.lt k hk).1
end

/-- the cells of a block that has just been laid -/
theorem news_new (w : World) (cs : Array Value) (t : TypeId) (news : List Value) (h : cs.toList = news) :
    ∀ j u, news[j]? = some u → (w.alloc (.cells cs t)).cell? ((⟨w.heap.size, 0, none⟩ : Addr).add j) = some u := by
  intro j u hj
  rw [Go.WideShapes.add_plain, Nat.zero_add, cell_of_row _ _ _ cs t (0, 0) (World.alloc_heap_new w _), ← hj, ← h]
  simp
theorem row_new (w : World) (cs : Array Value) (t : TypeId) (news : List Value) (h : cs.toList = news) : Row (w.alloc (.cells cs t)) (w.heap.size + 1) (some ⟨w.heap.size, 0, none⟩) news := by
  refine .inr ⟨w.heap.size, 0, rfl, by omega, fun k hk => ?_⟩
  rw [Nat.zero_add, cell_of_row _ _ _ cs t (0, 0) (World.alloc_heap_new w _), ← h]
  simp

/-- so many bytes, runes or numbers as cells -/
abbrev cl (k : IntKind) (l : List Int) : List Value := l.map (Value.int k)

theorem cl_get (k : IntKind) (l : List Int) (i : Nat) (h : i < l.length) : (cl k l)[i]? = some (.int k l[i]) := by simp [h]
theorem ret_val {a b : Value} (h : a = b) : Ending.returned a = .returned b := by rw [h]
theorem ret_int {k : IntKind} {a b : Int} (h : a = b) : Ending.returned (.int k a) = .returned (.int k b) := by rw [h]
theorem ret_bool {a b : Bool} (h : a = b) : Ending.returned (.bool a) = .returned (.bool b) := by rw [h]

end Go.Proofs.YtjkfppgekepbeaaDoor
