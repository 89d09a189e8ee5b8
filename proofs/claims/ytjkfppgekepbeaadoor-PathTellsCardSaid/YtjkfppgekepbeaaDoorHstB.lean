/-
  pct: Decode.
-/
import Derived.Test.YtjkfppgekepbeaaDoorHstA
import Derived.Test.YtjkfppgekepbeaaDoorUtfB
import Derived.OwnWalk
namespace Go.Proofs.YtjkfppgekepbeaaDoor.Hst
set_option maxRecDepth 100000
open Go.RowKit Utf Ut
open Sx (dv)

theorem info_split {i : TypeId} {z : Value} {a b : Nat} (h : (Tryd.prog.info? i).map (fun i => (i.zero, i.size, i.bytes)) = some (some z, a, b)) : ∃ x, Tryd.prog.info? i = some x ∧ x.zero = some z ∧ x.size = a ∧ x.bytes = b := by
  cases hx : Tryd.prog.info? i with
  | none => rw [hx] at h; cases h
  | some x => rw [hx] at h; simp only [Option.map_some, Option.some.injEq, Prod.mk.injEq] at h; exact ⟨x, rfl, h.1, h.2.1, h.2.2⟩
theorem own_form {w : World} {base : Nat} {e : TypeId} {size n : Nat} {v : Value} {xs : List Value} (h : w.ownsRow base e size v n xs) : ∃ A c, v = .slice A n c ∧ n ≤ c ∧ Row w w.heap.size A xs := by
  rcases h.2 with ⟨rfl, rfl⟩ | ⟨g, cap, cur, rfl, _, _, hc, _⟩
  · exact ⟨none, 0, rfl, by omega, .of_own h⟩
  · exact ⟨_, cap, rfl, hc, .of_own h⟩
theorem upB {w w1 w2 : World} (h : Below w.heap.size w w1) (k : Below w1.heap.size w1 w2) : Below w.heap.size w w2 := h.trans (k.mono h.size)
theorem upA (w : World) (o : Obj) : Below w.heap.size w (w.alloc o) := (Below.refl _ w).alloc (Nat.le_refl _) o
theorem one_u8 (xs : List Int) : ∀ u ∈ cl .u8 xs, u.oneCell' = true := by
  intro u hu
  obtain ⟨x, _, rfl⟩ := List.mem_map.1 hu
  rfl
theorem cl_snoc (k : IntKind) (xs : List Int) (y : Int) : cl k (xs ++ [y]) = cl k xs ++ [.int k y] := by simp [cl]
theorem cl_app (k : IntKind) (xs ys : List Int) : cl k (xs ++ ys) = cl k xs ++ cl k ys := by simp [cl]
/-- append(s, c), where the byte to be appended has just been laid -/
theorem wpList_appB {ops : Array Oper} {rest : List Oper} {o : Oper} {a : Act} {Q : Exit → Act → World → Prop} (B : Nat) (W : World) (hgd : o.guard = none) (s x : Operand)
    (ho : o.op = .call { callee := .builtin .append, args := #[s, x], argTypes := #[40, 40] })
    (v : Value) (n m : Nat) (xs : List Int) (y : Int) (hs : a.eval s = v) (hown : W.ownsRow B 5 1 v n (cl .u8 xs)) (hB : B ≤ W.heap.size)
    (hx : a.eval x = .slice (some ⟨W.heap.size, 0, none⟩) 1 1) (hm : n + 1 = m) (hm2 : m ≤ 11000000)
    (h : ∀ A' c' w', w'.ownsRow B 5 1 (.slice A' m c') m (cl .u8 (xs ++ [y])) → Below B W w' → wpList Tryd.prog ops Q rest (a.put o.dst (.slice A' m c')) w') :
    wpList Tryd.prog ops Q (o :: rest) a (W.alloc (.cells #[.int .u8 y] 5)) := by
  subst hm
  obtain ⟨i0, hi, hz0, hz1, hz2⟩ := info_split info_u8
  have hB1 := (Below.refl B W).alloc hB (.cells #[.int .u8 y] 5)
  refine wpList_append_row _ hgd s x 40 ho B 5 i0 (.int .u8 0) 1 1 Tryd.underlying40 hi hz0 hz1 hz2 rfl (Nat.zero_lt_succ 0) v n (cl .u8 xs) hs (hown.alloc _) _ _ 1 1 [.int .u8 y] hx rfl (row_new _ _ 5 [.int .u8 y] rfl) (by simp [Value.oneCell']) (by unfold maxLen; omega) (by omega) (by rw [World.size_alloc]; omega) ?_
  intro v' w' hO hg
  have hB2 := hB1.grown hg (by rw [World.size_alloc]; omega) (fun j e => (hown.lt j e).1)
  obtain ⟨A', c', rfl, _, _⟩ := own_form hO
  exact h A' c' w' (by rw [cl_snoc]; exact hO) hB2
/-- append(s, t...), where t is a row of bytes -/
theorem wpList_appBR {ops : Array Oper} {rest : List Oper} {o : Oper} {a : Act} {Q : Exit → Act → World → Prop} (B : Nat) (W : World) (hgd : o.guard = none) (s x : Operand)
    (ho : o.op = .call { callee := .builtin .append, args := #[s, x], argTypes := #[40, 40] })
    (v : Value) (n m : Nat) (xs ys : List Int) (hs : a.eval s = v) (hown : W.ownsRow B 5 1 v n (cl .u8 xs)) (hB : B ≤ W.heap.size) (A : Option Addr) (k c : Nat)
    (hx : a.eval x = .slice A k c) (hk : ys.length = k) (hr : Row W W.heap.size A (cl .u8 ys)) (hm : n + k = m) (hm2 : m ≤ 11000000)
    (h : ∀ A' c' w', w'.ownsRow B 5 1 (.slice A' m c') m (cl .u8 (xs ++ ys)) → Below B W w' → wpList Tryd.prog ops Q rest (a.put o.dst (.slice A' m c')) w') :
    wpList Tryd.prog ops Q (o :: rest) a W := by
  subst hm
  obtain ⟨i0, hi, hz0, hz1, hz2⟩ := info_split info_u8
  refine wpList_append_row _ hgd s x 40 ho B 5 i0 (.int .u8 0) 1 1 Tryd.underlying40 hi hz0 hz1 hz2 rfl (Nat.zero_lt_succ 0) v n (cl .u8 xs) hs hown W.heap.size A k c (cl .u8 ys) hx (by simp [hk]) hr (one_u8 ys) (by unfold maxLen; omega) (by omega) hB ?_
  intro v' w' hO hg
  have hB2 := (Below.refl B W).grown hg hB (fun j e => (hown.lt j e).1)
  obtain ⟨A', c', rfl, _, _⟩ := own_form hO
  exact h A' c' w' (by rw [cl_app]; exact hO) hB2
theorem ext_drop (s : ByteArray) (i : Nat) : dl (s.extract i s.size) = (dl s).drop i := by
  simp [dl, ByteArray.data_extract]
  exact List.take_of_length_le (by simp)
theorem pdec_le : ∀ (l : List UInt8) (k : Nat), (pgo k l).length ≤ l.length
  | [], k => by cases k <;> simp [pgo]
  | c :: t, 0 => by rw [pgo, List.length_cons, List.length_cons]; have := pdec_le t (if (cod (c :: t)).2 = true then 2 else 0); omega
  | c :: t, k + 1 => by rw [pgo, List.length_cons]; have := pdec_le t k; omega
theorem cod_byte (l : List UInt8) : (cod l).1 < 256 := by
  unfold cod
  split
  · decide
  · split
    · split
      · split
        · rename_i h
          show dv _ * 16 + dv _ < 256
          omega
        · decide
      · decide
    · exact UInt8.toNat_lt _
theorem pdec_byt : ∀ (l : List UInt8) (k : Nat), Byt (pgo k l)
  | [], k => by cases k <;> (intro x hx; simp [pgo] at hx)
  | c :: t, 0 => by
    intro x hx
    rw [pgo, List.mem_cons] at hx
    rcases hx with rfl | hx
    · have := cod_byte (c :: t); omega
    · exact pdec_byt t _ x hx
  | c :: t, k + 1 => by
    intro x hx
    rw [pgo] at hx
    exact pdec_byt t k x hx
end Go.Proofs.YtjkfppgekepbeaaDoor.Hst
