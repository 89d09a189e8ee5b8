/-
  Rows of code points, appended; the statements' three names.
-/
import Derived.Test.YtjkfppgekepbeaaDoorPthM
namespace Go.Proofs.YtjkfppgekepbeaaDoor.Pth
set_option maxRecDepth 100000
open Go.RowKit Utf Ut Hst

theorem info_i32 : (Tryd.prog.info? 21).map (fun i => (i.zero, i.size, i.bytes)) = some (some (.int .i32 0), 1, 4) := by kernel_rfl
theorem one_i32 (xs : List Int) : ∀ u ∈ cl .i32 xs, u.oneCell' = true := by
  intro u hu
  obtain ⟨x, _, rfl⟩ := List.mem_map.1 hu
  rfl
/-- append(s, t...), where t is a row of code points -/
theorem wpList_appN {ops : Array Oper} {rest : List Oper} {o : Oper} {a : Act} {Q : Exit → Act → World → Prop} (B : Nat) (W : World) (hgd : o.guard = none) (s x : Operand)
    (ho : o.op = .call { callee := .builtin .append, args := #[s, x], argTypes := #[22, 22] })
    (v : Value) (n m : Nat) (xs ys : List Int) (hs : a.eval s = v) (hown : W.ownsRow B 21 1 v n (cl .i32 xs)) (hB : B ≤ W.heap.size) (A : Option Addr) (k c : Nat)
    (hx : a.eval x = .slice A k c) (hk : ys.length = k) (hr : Row W W.heap.size A (cl .i32 ys)) (hm : n + k = m) (hm2 : m ≤ 1100000)
    (h : ∀ A' c' w', w'.ownsRow B 21 1 (.slice A' m c') m (cl .i32 (xs ++ ys)) → Below B W w' → wpList Tryd.prog ops Q rest (a.put o.dst (.slice A' m c')) w') :
    wpList Tryd.prog ops Q (o :: rest) a W := by
  subst hm
  obtain ⟨i0, hi, hz0, hz1, hz2⟩ := info_split info_i32
  refine wpList_append_row _ hgd s x 22 ho B 21 i0 (.int .i32 0) 1 4 Tryd.underlying22 hi hz0 hz1 hz2 rfl (Nat.zero_lt_succ 0) v n (cl .i32 xs) hs hown W.heap.size A k c (cl .i32 ys) hx (by simp [hk]) hr (one_i32 ys) (by unfold maxLen; omega) (by omega) hB ?_
  intro v' w' hO hg
  have hB2 := (Below.refl B W).grown hg hB (fun j e => (hown.lt j e).1)
  obtain ⟨A', c', rfl, _, _⟩ := own_form hO
  exact h A' c' w' (by rw [cl_app]; exact hO) hB2
/-- the three names -/
abbrev nmH : ByteArray := ⟨#[104, 116, 116, 112]⟩
abbrev nmF : ByteArray := ⟨#[102, 105, 108, 101]⟩
abbrev nmX : ByteArray := ⟨#[120]⟩
def Nm (S : ByteArray) : Prop := S.size ≤ 100 ∧ (S.toList == ([120] : List UInt8)) = !(spc S)
theorem nm_h : Nm ⟨#[104, 116, 116, 112]⟩ := ⟨by decide, by rw [ByteArray.toList_eq]; decide⟩
theorem nm_f : Nm ⟨#[102, 105, 108, 101]⟩ := ⟨by decide, by rw [ByteArray.toList_eq]; decide⟩
theorem nm_x : Nm ⟨#[120]⟩ := ⟨by decide, by rw [ByteArray.toList_eq]; decide⟩
theorem mod3 (a : Int) (h0 : 0 ≤ a) : ∃ r : Int, a % 3 = r ∧ a.tmod 3 = r ∧ (r = 0 ∨ r = 1 ∨ r = 2) := ⟨a % 3, rfl, Int.tmod_eq_emod_of_nonneg h0, by omega⟩
/-- behind a separator, or at the beginning -/
def At (sp : Bool) (l : List Int) (f : Nat) : Prop := f = 0 ∨ ∃ h : 0 < f ∧ f ≤ l.length, sep sp (l[f - 1]'(by omega)) = true
theorem lst_of {sp : Bool} {l : List Int} {f : Nat} (hf : f ≤ l.length) (h : At sp l f) (hno : ∀ r ∈ cutL l f l.length, sep sp r = false) : lst sp l = l.drop f := by
  have e : cutL l f l.length = l.drop f := by
    unfold cutL
    rw [List.take_of_length_le (by rw [List.length_drop]; omega)]
  rw [e] at hno
  have h2 := lst_at sp (l.take f) (l.drop f) hno (by
    rcases h with rfl | ⟨hp, hs⟩
    · exact .inl rfl
    · refine .inr ⟨l.take (f - 1), _, ?_, hs⟩
      have := List.take_succ_eq_append_getElem (i := f - 1) (l := l) (by omega)
      rwa [show f - 1 + 1 = f by omega] at this)
  rwa [List.take_append_drop] at h2
theorem sep_no' {sp : Bool} {r : Int} (h : sep sp r = false) : (r == 47) = false ∧ ((r == 92) = false ∨ ((r == 92) = true ∧ sp = false)) := by
  unfold sep at h
  rw [Bool.or_eq_false_iff, Bool.and_eq_false_iff] at h
  refine ⟨h.1, ?_⟩
  by_cases e : r = 92
  · refine .inr ⟨by simp [e], ?_⟩
    rcases h.2 with h | h
    · exact h
    · simp [e] at h
  · exact .inl (beq_eq_false_iff_ne.2 e)
theorem sep_yes' {sp : Bool} {r : Int} (h : sep sp r = true) : (r == 47) = true ∨ ((r == 47) = false ∧ (r == 92) = true ∧ sp = true) := by
  unfold sep at h
  rw [Bool.or_eq_true, Bool.and_eq_true] at h
  by_cases e : r = 47
  · exact .inl (by simp [e])
  · rcases h with h | h
    · exact absurd (beq_iff_eq.1 h) e
    · exact .inr ⟨beq_eq_false_iff_ne.2 e, h.2, h.1⟩
theorem At.next {sp : Bool} {l : List Int} {i : Nat} (hi : i < l.length) (h : sep sp l[i] = true) : At sp l (i + 1) := .inr ⟨⟨Nat.succ_pos _, hi⟩, h⟩
theorem wlk_len (sp fl : Bool) (L : List ByteArray) (T : List Int) : (wlk sp fl L T).length ≤ L.length + T.length + 1 := by
  have h1 := wgo_len fl (mk (prt sp T)) L
  have h2 := prt_len sp T
  have h3 := mk_len (prt sp T)
  unfold wlk
  omega
theorem own_made {w : World} {t : TypeId} : (w.alloc (.cells #[] t)).ownsRow w.heap.size t 1 (.slice (some ⟨w.heap.size, 0, none⟩) 0 0) 0 [] := ⟨rfl, .inr ⟨w.heap.size, 0, #[], rfl, Nat.le_refl _, World.alloc_heap_new w _, Nat.le_refl _, by decide, rfl, rfl⟩⟩
end Go.Proofs.YtjkfppgekepbeaaDoor.Pth
