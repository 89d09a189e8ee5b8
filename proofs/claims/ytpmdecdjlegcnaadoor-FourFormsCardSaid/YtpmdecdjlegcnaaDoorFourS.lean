/-
  Rows of texts: what an append makes of the call's own row.
-/
import Derived.Test.YtpmdecdjlegcnaaDoorFourB
import Derived.Test.YtpmdecdjlegcnaaDoorAppendRow
namespace Go.Proofs.YtpmdecdjlegcnaaDoor.Fou
open Go.RowKit

theorem info_split {i : TypeId} {z : Value} {a b : Nat} (h : (Tryd.prog.info? i).map (fun i => (i.zero, i.size, i.bytes)) = some (some z, a, b)) : ∃ x, Tryd.prog.info? i = some x ∧ x.zero = some z ∧ x.size = a ∧ x.bytes = b := by
  cases hx : Tryd.prog.info? i with
  | none => rw [hx] at h; cases h
  | some x => rw [hx] at h; simp only [Option.map_some, Option.some.injEq, Prod.mk.injEq] at h; exact ⟨x, rfl, h.1, h.2.1, h.2.2⟩
theorem own_form {w : World} {base : Nat} {e : TypeId} {size n : Nat} {v : Value} {xs : List Value} (h : w.ownsRow base e size v n xs) : ∃ A c, v = .slice A n c ∧ n ≤ c ∧ Row w w.heap.size A xs := by
  rcases h.2 with ⟨rfl, rfl⟩ | ⟨g, cap, cur, rfl, _, _, hc, _⟩
  · exact ⟨none, 0, rfl, by omega, .of_own h⟩
  · exact ⟨_, cap, rfl, hc, .of_own h⟩
theorem own_row {w : World} {base : Nat} {e : TypeId} {size n m c : Nat} {A : Option Addr} {xs : List Value} (h : w.ownsRow base e size (.slice A m c) n xs) : Row w w.heap.size A xs := by
  obtain ⟨A1, c1, hv, _, hr⟩ := own_form h
  cases hv
  exact hr
theorem own_cap {w : World} {base : Nat} {e : TypeId} {size n m c : Nat} {A : Option Addr} {xs : List Value} (h : w.ownsRow base e size (.slice A m c) n xs) : n ≤ c := by
  obtain ⟨A1, c1, hv, hc, hr⟩ := own_form h
  cases hv
  exact hc
theorem info_tx : (Tryd.prog.info? 9).map (fun i => (i.zero, i.size, i.bytes)) = some (some (.string ByteArray.empty), 1, 16) := by kernel_rfl
/-- texts as cells -/
abbrev sc (xs : List ByteArray) : List Value := xs.map Value.string
theorem sc_snoc (R : List ByteArray) (r : ByteArray) : sc (R ++ [r]) = sc R ++ [.string r] := by simp [sc]
theorem one_sc (xs : List ByteArray) : ∀ u ∈ sc xs, u.oneCell' = true := by
  intro u hu
  obtain ⟨x, _, rfl⟩ := List.mem_map.1 hu
  rfl
/-- append(s, y), where the one to be appended has just been laid -/
theorem wpList_appS {ops : Array Oper} {rest : List Oper} {o : Oper} {a : Act} {Q : Exit → Act → World → Prop} (B : Nat) (W : World) (hgd : o.guard = none) (s x : Operand)
    (ho : o.op = .call { callee := .builtin .append, args := #[s, x], argTypes := #[33, 33] })
    (v : Value) (n m : Nat) (xs : List ByteArray) (y : ByteArray) (hs : a.eval s = v) (hown : W.ownsRow B 9 1 v n (sc xs)) (hB : B ≤ W.heap.size)
    (hx : a.eval x = .slice (some ⟨W.heap.size, 0, none⟩) 1 1) (hm : n + 1 = m) (hm2 : m ≤ 1100000)
    (h : ∀ A' c' w', w'.ownsRow B 9 1 (.slice A' m c') m (sc (xs ++ [y])) → Below B W w' → wpList Tryd.prog ops Q rest (a.put o.dst (.slice A' m c')) w') :
    wpList Tryd.prog ops Q (o :: rest) a (W.alloc (.cells #[.string y] 9)) := by
  subst hm
  obtain ⟨i0, hi, hz0, hz1, hz2⟩ := info_split info_tx
  have hB1 := (Below.refl B W).alloc hB (.cells #[.string y] 9)
  refine wpList_append_row _ hgd s x 33 ho B 9 i0 (.string ByteArray.empty) 1 16 Tryd.underlying33 hi hz0 hz1 hz2 rfl (Nat.zero_lt_succ 0) v n (sc xs) hs (hown.alloc _) _ _ 1 1 [.string y] hx rfl (row_new _ _ 9 [.string y] rfl) (by simp [Value.oneCell']) (by unfold maxLen; omega) (by omega) (by rw [World.size_alloc]; omega) ?_
  intro v' w' hO hg
  have hB2 := hB1.grown hg (by rw [World.size_alloc]; omega) (fun j e => (hown.lt j e).1)
  obtain ⟨A', c', rfl, _, _⟩ := own_form hO
  exact h A' c' w' (by rw [sc_snoc]; exact hO) hB2
/-- append(s, t...), where t is a row of texts -/
theorem wpList_appR {ops : Array Oper} {rest : List Oper} {o : Oper} {a : Act} {Q : Exit → Act → World → Prop} (B : Nat) (W : World) (hgd : o.guard = none) (s x : Operand)
    (ho : o.op = .call { callee := .builtin .append, args := #[s, x], argTypes := #[33, 33] })
    (v : Value) (n m : Nat) (xs ys : List ByteArray) (hs : a.eval s = v) (hown : W.ownsRow B 9 1 v n (sc xs)) (hB : B ≤ W.heap.size) (A : Option Addr) (k c : Nat)
    (hx : a.eval x = .slice A k c) (hk : ys.length = k) (hr : Row W W.heap.size A (sc ys)) (hm : n + k = m) (hm2 : m ≤ 1100000)
    (h : ∀ A' c' w', w'.ownsRow B 9 1 (.slice A' m c') m (sc (xs ++ ys)) → Below B W w' → wpList Tryd.prog ops Q rest (a.put o.dst (.slice A' m c')) w') :
    wpList Tryd.prog ops Q (o :: rest) a W := by
  subst hm
  obtain ⟨i0, hi, hz0, hz1, hz2⟩ := info_split info_tx
  refine wpList_append_row _ hgd s x 33 ho B 9 i0 (.string ByteArray.empty) 1 16 Tryd.underlying33 hi hz0 hz1 hz2 rfl (Nat.zero_lt_succ 0) v n (sc xs) hs hown W.heap.size A k c (sc ys) hx (by simp [hk]) hr (one_sc ys) (by unfold maxLen; omega) (by omega) hB ?_
  intro v' w' hO hg
  have hB2 := (Below.refl B W).grown hg hB (fun j e => (hown.lt j e).1)
  obtain ⟨A', c', rfl, _, _⟩ := own_form hO
  exact h A' c' w' (by rw [show sc (xs ++ ys) = sc xs ++ sc ys from List.map_append]; exact hO) hB2
end Go.Proofs.YtpmdecdjlegcnaaDoor.Fou
