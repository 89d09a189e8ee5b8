/-
  context: what is asked beside a place hangs on what is beside it, up to the next ones that are not clear.
-/
import Derived.Test.YtmeihnhghdmjiaaDoorCtxJ
namespace Go.Proofs.YtmeihnhghdmjiaaDoor.Ctx
open Go.RowKit Ucd

theorem own_row {w : World} {base : Nat} {e : TypeId} {size n m c : Nat} {A : Option Addr} {xs : List Value} (h : w.ownsRow base e size (.slice A m c) n xs) : Row w w.heap.size A xs := by
  obtain ⟨A1, c1, hv, _, hr⟩ := own_form h
  cases hv
  exact hr
theorem own_one (w : World) (base : Nat) (e : TypeId) (v : Value) (hb : base ≤ w.heap.size) : (w.alloc (.cells #[v] e)).ownsRow base e 1 (.slice (some ⟨w.heap.size, 0, none⟩) 1 1) 1 [v] :=
  World.ownsRow_lit w #[v] 1 hb (by unfold maxLen; omega) rfl
theorem own_none (w : World) (base : Nat) (e : TypeId) (hb : base ≤ w.heap.size) : (w.alloc (.cells #[] e)).ownsRow base e 1 (.slice (some ⟨w.heap.size, 0, none⟩) 0 0) 0 [] :=
  World.ownsRow_lit w #[] 0 hb (by unfold maxLen; omega) rfl
theorem nxt_app : ∀ (X Y : List Int), (∃ x ∈ X, jt x ≠ 2) → nxt (X ++ Y) = nxt X
  | [], _, h => by obtain ⟨x, h, _⟩ := h; simp at h
  | r :: t, Y, h => by
    rw [List.cons_append, nxt, nxt]
    by_cases e : jt r = 2
    · rw [if_pos e, if_pos e]
      refine nxt_app t Y ?_
      obtain ⟨x, hx, hn⟩ := h
      rcases List.mem_cons.1 hx with rfl | hx
      · exact absurd e hn
      · exact ⟨x, hx, hn⟩
    · rw [if_neg e, if_neg e]
theorem jt_a : jt 97 ≠ 2 := by decide +kernel
theorem mid_get {P I S : List Int} {j : Nat} (h : j < I.length) : (P ++ I ++ S)[P.length + j]! = I[j]! := by
  rw [List.append_assoc, getElem!_pos (P ++ (I ++ S)) (P.length + j) (by simp; omega), getElem!_pos I j h, List.getElem_append_right (by omega)]
  simp only [Nat.add_sub_cancel_left]
  rw [List.getElem_append_left h]
theorem mid_take {P I S : List Int} {j : Nat} (h : j ≤ I.length) : (P ++ I ++ S).take (P.length + j) = P ++ I.take j := by
  rw [List.append_assoc, List.take_append, List.take_of_length_le (by omega), Nat.add_sub_cancel_left, List.take_append_of_le_length h]
theorem mid_drop {P I S : List Int} {j : Nat} (h : j ≤ I.length) : (P ++ I ++ S).drop (P.length + j) = I.drop j ++ S := by
  rw [List.append_assoc, List.drop_append, List.drop_of_length_le (by omega), Nat.add_sub_cancel_left, List.nil_append, List.drop_append_of_le_length h]
theorem beside {P I S : List Int} {i : Nat} (h0 : 0 < i) (h1 : i + 1 < I.length) (hA : ∃ x ∈ I.take i, jt x ≠ 2) (hB : ∃ x ∈ I.drop (i + 1), jt x ≠ 2) (hk : kd I[i]! < 5 ∨ 8 ≤ kd I[i]!) : atC (P ++ I ++ S) (P.length + i) = atC I i := by
  have e0 : (P ++ I ++ S)[P.length + i]! = I[i]! := mid_get (by omega)
  have e1 : (P ++ I ++ S)[P.length + i - 1]! = I[i - 1]! := by rw [show P.length + i - 1 = P.length + (i - 1) from by omega]; exact mid_get (by omega)
  have e2 : (P ++ I ++ S)[P.length + i + 1]! = I[i + 1]! := by rw [show P.length + i + 1 = P.length + (i + 1) from by omega]; exact mid_get (by omega)
  have ev : vir (P ++ I ++ S) (P.length + i) = vir I i := by
    unfold vir
    rw [e1, decide_eq_true h0, decide_eq_true (show 0 < P.length + i by omega)]
  have hlen : P.length + i + 1 < (P ++ I ++ S).length := by simp; omega
  unfold atC
  rw [e0]
  by_cases h8 : kd I[i]! < 8
  · have h5 : kd I[i]! < 5 := by omega
    have ho : ok (P ++ I ++ S) (P.length + i) (kd I[i]!) = ok I i (kd I[i]!) := by
      generalize kd I[i]! = k at h5
      match k, h5 with
      | 0, _ =>
        show (decide (0 < P.length + i) && (decide ((P ++ I ++ S)[P.length + i - 1]! = 108) && (decide (P.length + i + 1 < (P ++ I ++ S).length) && decide ((P ++ I ++ S)[P.length + i + 1]! = 108)))) = (decide (0 < i) && (decide (I[i - 1]! = 108) && (decide (i + 1 < I.length) && decide (I[i + 1]! = 108))))
        rw [e1, e2, decide_eq_true h0, decide_eq_true (show 0 < P.length + i by omega), decide_eq_true h1, decide_eq_true hlen]
      | 1, _ =>
        show (decide (P.length + i + 1 < (P ++ I ++ S).length) && decide (sc (P ++ I ++ S)[P.length + i + 1]! = 3)) = (decide (i + 1 < I.length) && decide (sc I[i + 1]! = 3))
        rw [e2, decide_eq_true h1, decide_eq_true hlen]
      | 2, _ =>
        show (decide (0 < P.length + i) && decide (sc (P ++ I ++ S)[P.length + i - 1]! = 5)) = (decide (0 < i) && decide (sc I[i - 1]! = 5))
        rw [e1, decide_eq_true h0, decide_eq_true (show 0 < P.length + i by omega)]
      | 3, _ =>
        show (vir (P ++ I ++ S) (P.length + i) || (on (nxt ((P ++ I ++ S).take (P.length + i)).reverse) && back (nxt ((P ++ I ++ S).drop (P.length + i + 1))))) = (vir I i || (on (nxt (I.take i).reverse) && back (nxt (I.drop (i + 1)))))
        rw [ev, mid_take (by omega), Nat.add_assoc, mid_drop (by omega), List.reverse_append, nxt_app _ _ hB, nxt_app _ _ (by
          obtain ⟨x, hx, hn⟩ := hA
          exact ⟨x, List.mem_reverse.2 hx, hn⟩)]
      | 4, _ => exact ev
    rw [ho]
  · rw [if_neg (fun x => h8 x.1), if_neg (fun x => h8 x.1)]
theorem beside_a {P l S : List Int} {i : Nat} (h0 : 0 < i) (h1 : i + 1 < l.length + 2) (hc : ct (97 :: l ++ [97])[i]! ≠ 5) (hk : (97 :: l ++ [97])[i]! ≠ 12539) : atC (P ++ (97 :: l ++ [97]) ++ S) (P.length + i) = atC (97 :: l ++ [97]) i := by
  have hl : (97 :: l ++ [97]).length = l.length + 2 := by simp
  refine beside h0 (by rw [hl]; exact h1) ⟨97, ?_, jt_a⟩ ⟨97, ?_, jt_a⟩ ?_
  · obtain ⟨j, rfl⟩ : ∃ j, i = j + 1 := ⟨i - 1, by omega⟩
    simp
  · rw [show 97 :: l ++ [97] = (97 :: l) ++ [97] from rfl, List.drop_append_of_le_length (by simp; omega)]
    simp
  · generalize (97 :: l ++ [97])[i]! = r at hc hk
    have ha : ara r = false := by
      rcases Bool.eq_false_or_eq_true (ara r) with h | h
      · exact absurd (ct_dig (.inl h)) hc
      · exact h
    have he : eas r = false := by
      rcases Bool.eq_false_or_eq_true (eas r) with h | h
      · exact absurd (ct_dig (.inr h)) hc
      · exact h
    rw [kd_plain ha he]
    rcases kdK_cases r with h | ⟨g1, g2, g3, g4, g5, g6, g7, g8, g9⟩
    · rcases h with rfl | rfl | rfl | rfl | rfl | rfl | rfl | rfl | rfl
      · exact .inl (by decide)
      · exact .inl (by decide)
      · exact .inl (by decide)
      · exact .inl (by decide)
      · exact .inl (by decide)
      · exact .inl (by decide)
      · exact absurd rfl hk
      · exact absurd ha (by decide)
      · exact absurd he (by decide)
    · exact .inr (by simp [kdK, g1, g2, g3, g4, g5, g6, g7, g8, g9])
end Go.Proofs.YtmeihnhghdmjiaaDoor.Ctx
