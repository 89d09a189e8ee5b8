/-
  remap: Map; what is mapped to itself.
-/
import Derived.Test.YtenfdnnagijfnaaGreatDoorLabelD
import Derived.OwnWalk
namespace Go.Proofs.YtenfdnnagijfnaaGreatDoor
open Go.RowKit Norm Remap

def m1 (r : Int) : List Int := if (one r).2 = 3 then [r] else (one r).1
def mapL (l : List Int) : List Int := l.flatMap m1
theorem m1_cases (r : Int) : m1 r = [r] ∨ m1 r = [] ∨ m1 r = [46, 46, 46] ∨ ∃ s ∈ shL, inS r s = true ∧ m1 r = [r - s.1 + s.2.2] := by
  cases hm : mp r with
  | some l =>
    have e : m1 r = l := by unfold m1 one; rw [hm]; rfl
    unfold mp at hm
    by_cases h8 : r = 8230
    · rw [if_pos h8] at hm
      injection hm with hm
      exact .inr (.inr (.inl (e.trans hm.symm)))
    · rw [if_neg h8, Option.map_eq_some_iff] at hm
      obtain ⟨s, hs, hl⟩ := hm
      exact .inr (.inr (.inr ⟨s, List.mem_of_find?_eq_some hs, List.find?_some hs, e.trans hl.symm⟩))
  | none =>
    have e : one r = if igL.any (inP r) then ([], 2) else if vl r then ([r], 0) else ([], 3) := by unfold one; rw [hm]
    unfold m1
    rw [e]
    cases igL.any (inP r)
    · cases vl r
      · exact .inl rfl
      · exact .inl rfl
    · exact .inr (.inl rfl)
theorem m1_len (r : Int) : (m1 r).length ≤ 3 := by
  rcases m1_cases r with h | h | h | ⟨s, _, _, h⟩ <;> rw [h] <;> simp
theorem mapL_len (l : List Int) : (mapL l).length ≤ l.length * 3 := by
  induction l with
  | nil => simp [mapL]
  | cons x t ih => have e : mapL (x :: t) = m1 x ++ mapL t := rfl; rw [e, List.length_append, List.length_cons]; have := m1_len x; omega
theorem mapL_take {l : List Int} {k : Nat} (hk : k < l.length) : mapL (l.take (k + 1)) = mapL (l.take k) ++ m1 l[k] := by
  unfold mapL
  rw [List.take_add_one, List.getElem?_eq_getElem hk, List.flatMap_append]
  simp
theorem m1_32 {r : Int} (h : -2147483648 ≤ r ∧ r ≤ 2147483647) : C32 (m1 r) := by
  intro x hx
  rcases m1_cases r with e | e | e | ⟨s, hs, h1, e⟩ <;> rw [e] at hx
  · rw [List.mem_singleton] at hx; rw [hx]; exact h
  · simp at hx
  · simp only [List.mem_cons, List.mem_nil_iff, or_false] at hx
    rcases hx with rfl | rfl | rfl <;> omega
  · rw [List.mem_singleton] at hx
    unfold inS at h1
    have h1 := of_decide_eq_true h1
    have h2 := of_decide_eq_true (List.all_eq_true.1 sh_bd s hs)
    omega
theorem mapL_32 {l : List Int} (h : C32 l) : C32 (mapL l) := by
  intro x hx
  obtain ⟨r, hr, hx⟩ := List.mem_flatMap.1 hx
  exact m1_32 (h r hr) x hx
theorem vd_one {r : Int} (h : vd r = true) : one r = ([r], 0) := by
  unfold vd at h
  have h := of_decide_eq_true h
  cases hm : mp r with
  | some l =>
    have e : one r = (l, 1) := by unfold one; rw [hm]
    rw [e] at h
    exact absurd (show (1 : Int) = 0 from h) (by decide)
  | none =>
    have e : one r = if igL.any (inP r) then ([], 2) else if vl r then ([r], 0) else ([], 3) := by unfold one; rw [hm]
    rw [e] at h ⊢
    revert h
    cases igL.any (inP r)
    · cases vl r
      · intro h; exact absurd (show (3 : Int) = 0 from h) (by decide)
      · intro _; rfl
    · intro h; exact absurd (show (2 : Int) = 0 from h) (by decide)
theorem mapL_self {l : List Int} (h : vio l 6 = false) : mapL l = l := by
  rw [vio6, List.any_eq_false] at h
  induction l with
  | nil => rfl
  | cons x t ih =>
    have e : mapL (x :: t) = m1 x ++ mapL t := rfl
    have hx : vd x = true := by
      have := h x (by simp)
      cases hv : vd x with
      | true => rfl
      | false => rw [hv] at this; exact absurd rfl this
    have e1 : m1 x = [x] := by unfold m1; rw [vd_one hx]; rfl
    rw [e, e1, ih fun y hy => h y (by simp [hy])]
    rfl
theorem upper_ok : (List.range 166).all (fun i => !(decide (Ucd.g (Ucd.pr i) 0 = 2)) || shL.any (fun s => decide (s.1 ≤ Ucd.fr i) && decide (Ucd.to i ≤ s.2.1))) = true := by decide +kernel
/-- no capital may be in a label -/
theorem vd_upper {r : Int} (h : vd r = true) : Ucd.g (Ucd.of r) 0 ≠ 2 := fun hu => by
  rcases Ucd.of_cases r with ⟨i, hi, h1, h2, e⟩ | ⟨_, e⟩
  · have := List.all_eq_true.1 upper_ok i (List.mem_range.2 hi)
    rw [e] at hu
    rw [decide_eq_true hu] at this
    rw [Bool.not_true, Bool.false_or] at this
    obtain ⟨s, hs, hc⟩ := List.any_eq_true.1 this
    simp only [Bool.and_eq_true, decide_eq_true_eq] at hc
    have hin : inS r s = true := decide_eq_true ⟨by omega, by omega⟩
    have h8 : r ≠ 8230 := fun h8 => by
      rw [h8] at hin
      have hn : shL.find? (inS 8230) = none := by decide +kernel
      rw [List.find?_eq_none] at hn
      exact hn s hs hin
    have hm : (mp r).isSome = true := by
      unfold mp
      rw [if_neg h8, Option.isSome_map, List.find?_isSome]
      exact ⟨s, hs, hin⟩
    unfold vd one at h
    have h := of_decide_eq_true h
    cases hmp : mp r with
    | some l => rw [hmp] at h; cases h
    | none => rw [hmp] at hm; cases hm
  · rw [e] at hu
    revert hu
    decide
def MapV (w : World) (l : List Int) (e : Ending) (w' : World) : Prop :=
  ∃ A c q, e = .returned (.tuple #[.slice A l.length c, .bool q]) ∧ w'.ownsRow w.heap.size 21 1 (.slice A l.length c) l.length (cl .i32 l) ∧ Below w.heap.size w w'
set_option maxRecDepth 100000 in
set_option maxHeartbeats 2000000 in
theorem Map_any (l : List Int) (A : Option Addr) (n c : Nat) (w : World) (hn : l.length = n) (hl : n ≤ 1000) (hr : Row w w.heap.size A (cl .i32 l)) : Calls Tryz.prog 30 #[.slice A n c] w (MapV w (mapL l)) := by
  obtain ⟨i0, hi, hz0, hz1, hz2⟩ := info_split info_int32
  have HZ := Lib.hid hz2
  have HN := Lib.hid hn
  clear hn
  go_enter Tryz.func30, Tryz.ntmps30
  go_wp2_with (first | (at_make; refine wpList_make_own _ rfl _ _ 22 rfl w.heap.size 21 i0 _ 1 Tryz.underlying22 hi hz0 hz1 .i64 .i64 _ n rfl rfl rfl (by rw [HZ.out]; omega) (by unfold maxLen; omega) (Nat.le_refl _) ?_; intro w1 hown1 hgrow1) | fail)
  have hB1 : Below w.heap.size w w1 := (Below.refl _ _).grown hgrow1 (Nat.le_refl _) (fun j e => by cases e)
  go_loopg [4, 5, 15] n (fun m s4 s5 s15 wr => ∃ (k c : Nat) (A2 : Option Addr) (q : Bool), s15 = .int .i64 (k : Int) ∧ m = n - k ∧ k ≤ n ∧ s4 = .slice A2 (mapL (l.take k)).length c ∧ s5 = .bool q ∧ wr.ownsRow w.heap.size 21 1 (.slice A2 (mapL (l.take k)).length c) (mapL (l.take k)).length (cl .i32 (mapL (l.take k))) ∧ Below w.heap.size w wr)
  case atStart => exact ⟨0, n, _, true, rfl, rfl, Nat.zero_le _, rfl, rfl, hown1, hB1⟩
  case round =>
    clear hown1 hB1 hgrow1
    obtain ⟨k, c', A2, q, rfl, rfl, hk, rfl, rfl, hO, hB⟩ := hrel
    by_cases hlt : k < n
    · have hltz : (k : Int) < (n : Int) := by omega
      have hlt' : k < l.length := by rw [HN.out]; exact hlt
      have HMT := Lib.hid (mapL_take hlt')
      have hnl : (mapL (l.take k)).length ≤ 3000 := by have := mapL_len (l.take k); rw [List.length_take] at this; omega
      obtain ⟨b0, o0, rfl, hb0, hcc⟩ := (hr.below hB).at_ (by simp; omega)
      have c0 := row_cell hcc k hlt'
      rw [show l[k]! = l[k] from getElem!_pos l k hlt'] at c0
      obtain ⟨r, hx⟩ : ∃ r, l[k] = r := ⟨_, rfl⟩
      rw [hx] at c0 HMT
      have HO := Lib.hid (fun w => One_any r w)
      have hm3 := m1_len r
      have HM1 : Hid (m1 r = if (one r).2 = 3 then [r] else (one r).1) := Lib.hid rfl
      generalize one r = p at HO HM1
      obtain ⟨R, how⟩ := p
      obtain ⟨P, hP⟩ : ∃ P, mapL (l.take k) = P := ⟨_, rfl⟩
      rw [hP] at hO hnl HMT ⊢
      obtain ⟨F, hF⟩ : ∃ F, m1 r = F := ⟨_, rfl⟩
      rw [hF] at HM1 HMT hm3
      clear hcc hx hP hF hlt'
      unfold OneV at HO
      dsimp only at HO HM1
      by_cases h3 : how = 3
      · obtain rfl : F = [r] := by rw [HM1.out, if_pos h3]
        subst h3
        go_wp2_with (first
          | (go_at_call 49; refine (HO.out _).mono ?_; rintro e w2 ⟨A3, c3, rfl, ho3, hb3⟩; have hO3 := own_below hO hb3; have hB3 := hB.trans (hb3.mono hB.size))
          | (at_builtin; refine wpList_append_row _ rfl _ _ 22 rfl w.heap.size 21 i0 (.int .i32 0) 1 4 Tryz.underlying22 hi hz0 hz1 hz2 rfl (by decide) _ P.length (cl .i32 P) rfl (hO3.alloc _) _ _ 1 1 [.int .i32 r] rfl rfl (row_new' _ _ _ _ rfl) (by simp [Value.oneCell']) (by unfold maxLen; omega) (by omega) (hB3.alloc hB3.size _).size ?_; intro v4 w4 hO4 hg4; obtain ⟨A4, c4, hv4⟩ := own_shape hO4; subst hv4)
          | fail)
        have hB4 : Below w.heap.size w w4 := (hB3.alloc hB3.size (.cells #[.int .i32 r] 21)).grown hg4 (hB3.alloc hB3.size _).size (fun j e => ((hO3.alloc (.cells #[.int .i32 r] 21)).lt j e).1)
        go_roundg (n - (k + 1))
        case measure => omega
        case rel =>
          refine ⟨k + 1, c4, A4, false, by go_num, rfl, by omega, ?_, rfl, ?_, hB4⟩
          · rw [HMT.out, List.length_append]; rfl
          · rw [HMT.out, List.length_append, show cl .i32 (P ++ [r]) = cl .i32 P ++ [.int .i32 r] from by simp [cl]]
            exact hO4
      · obtain rfl : F = R := by rw [HM1.out, if_neg h3]
        have h3b : (how == 3) = false := by simpa using h3
        go_wp2_with (first
          | (go_at_call 49; refine (HO.out _).mono ?_; rintro e w2 ⟨A3, c3, rfl, ho3, hb3⟩; have hO3 := own_below hO hb3; have hB3 := hB.trans (hb3.mono hB.size))
          | (at_builtin; refine wpList_append_row _ rfl _ _ 22 rfl w.heap.size 21 i0 (.int .i32 0) 1 4 Tryz.underlying22 hi hz0 hz1 hz2 rfl (by decide) _ P.length (cl .i32 P) rfl hO3 _ A3 F.length c3 (cl .i32 F) rfl (by simp) (Row.of_own ho3) (one_cl _ _) (by unfold maxLen; omega) (by omega) hB3.size ?_; intro v4 w4 hO4 hg4; obtain ⟨A4, c4, hv4⟩ := own_shape hO4; subst hv4)
          | fail)
        have hB4 : Below w.heap.size w w4 := hB3.grown hg4 hB3.size (fun j e => (hO3.lt j e).1)
        go_roundg (n - (k + 1))
        case measure => omega
        case rel =>
          refine ⟨k + 1, c4, A4, q, by go_num, rfl, by omega, ?_, rfl, ?_, hB4⟩
          · rw [HMT.out, List.length_append]
          · rw [HMT.out, List.length_append, show cl .i32 (P ++ F) = cl .i32 P ++ cl .i32 F from by simp [cl]]
            exact hO4
    · obtain rfl : k = n := by omega
      have hltz : ¬ ((k : Nat) : Int) < (k : Int) := by omega
      rw [List.take_of_length_le (by rw [HN.out]; exact Nat.le_refl _)] at hO ⊢
      go_wp2_with fail
      go_ret2
      exact ⟨A2, c', q, rfl, hO, hB⟩
end Go.Proofs.YtenfdnnagijfnaaGreatDoor
