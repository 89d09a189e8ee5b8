/-
  The contract of puny.basics; what has turned between two worlds.
-/
import Derived.Test.YtcdjjodiiaahfaaPunyH
import Derived.Test.YtcdjjodiiaahfaaPunyMath4
namespace Go.Proofs.Ytcdjjodiiaahfaa
open Go.RowKit Go.Shelf Puny

/-- of what lay in W only what S names may have turned -/
def Free (S : Nat → Prop) (W W' : World) : Prop := W'.os = W.os ∧ W'.tape = W.tape ∧ W'.output = W.output ∧ W.heap.size ≤ W'.heap.size ∧ ∀ j, j < W.heap.size → ¬ S j → W'.heap[j]? = W.heap[j]?
theorem Free.refl (S : Nat → Prop) (W : World) : Free S W W := ⟨rfl, rfl, rfl, Nat.le_refl _, fun _ _ _ => rfl⟩
theorem Free.trans {S S' : Nat → Prop} {A B C : World} (h : Free S A B) (k : Free S' B C) (hs : ∀ j, j < A.heap.size → S' j → S j) : Free S A C :=
  ⟨k.1.trans h.1, k.2.1.trans h.2.1, k.2.2.1.trans h.2.2.1, Nat.le_trans h.2.2.2.1 k.2.2.2.1, fun j hj hn => (k.2.2.2.2 j (Nat.lt_of_lt_of_le hj h.2.2.2.1) (fun e => hn (hs j hj e))).trans (h.2.2.2.2 j hj hn)⟩
theorem Free.of_grown {A B : World} {row : Option Nat} (h : A.grownBy B row) : Free (fun j => row = some j) A B := ⟨h.os, h.tape, h.output, h.size, fun j hj hn => h.block j hj (fun e => hn e.symm)⟩
theorem Free.of_below {A B : World} (h : Below A.heap.size A B) : Free (fun _ => False) A B := ⟨h.os, h.tape, h.output, h.size, fun j hj _ => h.block j hj⟩
theorem Free.store (W : World) (B : Nat) (v : Value) : Free (fun j => j = B) W (W.setCell ⟨B, 0, none⟩ v) := by
  have h := grownBy_setCell' W B v
  exact ⟨h.os, h.tape, h.output, h.size, fun j hj hn => h.block j hj (fun e => hn (by cases e; rfl))⟩
theorem Free.store1 (W : World) (B : Nat) (v : Value) : Free (fun j => j = B) W (W.setCell ⟨B, 1, none⟩ v) := by
  refine ⟨rfl, rfl, rfl, by simp, fun j hj hn => ?_⟩
  simp [World.setCell, Array.getElem?_modify]
  intro e; exact absurd e.symm hn
theorem Free.below {S : Nat → Prop} {A B : World} {n : Nat} (h : Free S A B) (hn : n ≤ A.heap.size) (hs : ∀ j, j < n → ¬ S j) : Below n A B :=
  ⟨h.1, h.2.1, h.2.2.1, h.2.2.2.1, fun j hj => h.2.2.2.2 j (by omega) (hs j hj)⟩

/-! ### basics -/
/-- bytes as cells -/
abbrev cb (l : List Nat) : List Value := l.map fun n : Nat => Value.int .u8 (n : Int)
def bas (l : List Nat) (k : Nat) : List Nat := Puny.basics (l.take k)
theorem bas_yes {l : List Nat} {k : Nat} (hk : k < l.length) (h : l[k] < 128) : bas l (k + 1) = bas l k ++ [l[k]] := by
  unfold bas Puny.basics; rw [List.take_succ_eq_append_getElem hk, List.filter_append]; simp [h]
theorem bas_no {l : List Nat} {k : Nat} (hk : k < l.length) (h : ¬ l[k] < 128) : bas l (k + 1) = bas l k := by
  unfold bas Puny.basics; rw [List.take_succ_eq_append_getElem hk, List.filter_append, List.filter_cons, if_neg (by simpa using h)]; simp
theorem bas_len (l : List Nat) (k : Nat) : (bas l k).length ≤ l.length := Nat.le_trans (List.length_filter_le _ _) (by rw [List.length_take]; omega)

def Based (l : List Nat) (w : World) (e : Ending) (w' : World) : Prop :=
  ∃ v, e = .returned v ∧ w'.ownsRow w.heap.size 5 1 v (Puny.basics l).length (cb (Puny.basics l)) ∧ Below w.heap.size w w'

set_option maxRecDepth 100000 in
set_option maxHeartbeats 1000000 in
theorem basics_any (l : List Nat) (A : Option Addr) (n c : Nat) (w : World) (hn : l.length = n) (hm : n ≤ 100000) (hr : Row w w.heap.size A (cn l)) :
    Calls Try.prog 20 #[.slice A n c] w (Based l w) := by
  obtain ⟨i0, hi, hz0, hz1, hz2⟩ := info_parts info_u8
  have HN := Lib.hid hn
  clear hn
  go_enter Try.func20, Try.ntmps20
  go_wp2
  go_loopw [3, 8] (fun o i wr => ∃ k : Nat, k ≤ n ∧ i = .int .i64 k ∧ wr.ownsRow w.heap.size 5 1 o (bas l k).length (cb (bas l k)) ∧ Below w.heap.size w wr) (fun _ i _ => n - (intOf i).toNat)
  case atStart => exact ⟨0, Nat.zero_le _, rfl, by simpa [bas, Puny.basics] using World.ownsRow_nil _ _ _ _, Below.refl _ _⟩
  case round =>
    obtain ⟨k, hk, rfl, hown, hB⟩ := hrel
    have hsz := hB.size
    by_cases hlt : k < n
    · have hkl : k < l.length := by rw [HN.out]; exact hlt
      obtain ⟨b, off, rfl, hb, hc⟩ := (hr.below hB).at_ (by simp; omega)
      have hcell := hc k (by simp; omega)
      rw [cn_get _ _ hkl] at hcell
      have hol := bas_len l k
      rw [HN.out] at hol
      have HC := Lib.hid hc
      have HR := Lib.hid hr
      clear hc hr
      obtain ⟨x, hx⟩ : ∃ x, l[k] = x := ⟨_, rfl⟩
      rw [hx] at hcell
      have HX := Lib.hid hx
      clear hx
      by_cases hbig : x < 128
      · go_wp2_with (first
          | (at_builtin; refine wpList_append_own_at _ rfl _ _ 34 rfl w.heap.size 5 i0 (.int .u8 0) 1 1 Try.underlying34 hi hz0 hz1 hz2 rfl (by decide) _ _ _ rfl (hown.alloc _) ⟨wr.heap.size, 0, none⟩ 1 1 _ rfl (by rfl) (news_new _ _ _ _ rfl) (by simp [Value.oneCell']) (by unfold maxLen; omega) (by omega) (by simp; omega) ?_; intro v' w2 hown2 hgrow2 _ _)
          | fail)
        go_roundw
        case rel =>
          refine ⟨k + 1, by omega, by go_num, ?_, (hB.alloc hsz _).grown hgrow2 (by simp; omega) (fun j e => (hown.lt j e).1)⟩
          rw [bas_yes hkl (by rw [HX.out]; exact hbig), HX.out, List.length_append]
          simpa using hown2
        case measure => simp [intOf]; omega
      · go_wp2
        go_roundw
        case rel => exact ⟨k + 1, by omega, by go_num, by rw [bas_no hkl (by rw [HX.out]; exact hbig)]; exact hown, hB⟩
        case measure => simp [intOf]; omega
    · obtain rfl : k = n := by omega
      go_wp2
      go_ret
      refine ⟨_, rfl, ?_, hB⟩
      have e : bas l k = Puny.basics l := by unfold bas; rw [List.take_of_length_le (by rw [HN.out]; exact Nat.le_refl _)]
      rw [e] at hown
      exact hown
end Go.Proofs.Ytcdjjodiiaahfaa
