/-
  fascialaw08: asks; rows of the call's own.
-/
import Derived.Test.YtmeihnhghdmjiaaDoorCtxI
import Derived.Test.YtmeihnhghdmjiaaDoorAppendRow
namespace Go.Proofs.YtmeihnhghdmjiaaDoor.Ctx
open Go.RowKit Ucd

theorem info_int32 : (Tryd.prog.info? 21).map (fun i => (i.zero, i.size, i.bytes)) = some (some (.int .i32 0), 1, 4) := by kernel_rfl
theorem info_split {i : TypeId} {z : Value} {a b : Nat} (h : (Tryd.prog.info? i).map (fun i => (i.zero, i.size, i.bytes)) = some (some z, a, b)) : ∃ x, Tryd.prog.info? i = some x ∧ x.zero = some z ∧ x.size = a ∧ x.bytes = b := by
  cases hx : Tryd.prog.info? i with
  | none => rw [hx] at h; cases h
  | some x => rw [hx] at h; simp only [Option.map_some, Option.some.injEq, Prod.mk.injEq] at h; exact ⟨x, rfl, h.1, h.2.1, h.2.2⟩
theorem own_form {w : World} {base : Nat} {e : TypeId} {size n : Nat} {v : Value} {xs : List Value} (h : w.ownsRow base e size v n xs) : ∃ A c, v = .slice A n c ∧ n ≤ c ∧ Row w w.heap.size A xs := by
  rcases h.2 with ⟨rfl, rfl⟩ | ⟨g, cap, cur, rfl, _, _, hc, _⟩
  · exact ⟨none, 0, rfl, by omega, .of_own h⟩
  · exact ⟨_, cap, rfl, hc, .of_own h⟩
theorem kdK_lt {q : Int} : kdK q < 8 ↔ (q = 183 ∨ q = 885 ∨ q = 1523 ∨ q = 1524 ∨ q = 8204 ∨ q = 8205 ∨ q = 12539 ∨ q = 1632 ∨ q = 1776) := by
  rcases kdK_cases q with h | ⟨h1, h2, h3, h4, h5, h6, h7, h8, h9⟩
  · refine ⟨fun _ => h, fun _ => ?_⟩
    rcases h with rfl | rfl | rfl | rfl | rfl | rfl | rfl | rfl | rfl <;> decide
  · have e : kdK q = 8 := by simp [kdK, h1, h2, h3, h4, h5, h6, h7, h8, h9]
    rw [e]
    refine ⟨fun h => absurd h (by decide), fun h => ?_⟩
    omega
theorem kd_lt {r : Int} : kd r < 8 ↔ (r = 183 ∨ r = 885 ∨ r = 1523 ∨ r = 1524 ∨ r = 8204 ∨ r = 8205 ∨ r = 12539 ∨ (1632 ≤ r ∧ r < 1642) ∨ (1776 ≤ r ∧ r < 1786)) := by
  by_cases ha : ara r = true
  · rw [kd_ara ha]
    unfold ara at ha
    simp only [Bool.and_eq_true, decide_eq_true_eq] at ha
    omega
  · by_cases he : eas r = true
    · rw [kd_eas he]
      unfold eas at he
      simp only [Bool.and_eq_true, decide_eq_true_eq] at he
      omega
    · rw [kd_plain (by simpa using ha) (by simpa using he), kdK_lt]
      unfold ara at ha
      unfold eas at he
      simp only [Bool.and_eq_true, decide_eq_true_eq] at ha he
      omega
theorem kd_join {r : Int} : (kd r = 3 ∨ kd r = 4) ↔ (r = 8204 ∨ r = 8205) := by
  by_cases ha : ara r = true
  · rw [kd_ara ha]
    unfold ara at ha
    simp only [Bool.and_eq_true, decide_eq_true_eq] at ha
    omega
  · by_cases he : eas r = true
    · rw [kd_eas he]
      unfold eas at he
      simp only [Bool.and_eq_true, decide_eq_true_eq] at he
      omega
    · rw [kd_plain (by simpa using ha) (by simpa using he)]
      rcases kdK_cases r with h | ⟨h1, h2, h3, h4, h5, h6, h7, h8, h9⟩
      · rcases h with rfl | rfl | rfl | rfl | rfl | rfl | rfl | rfl | rfl <;> decide
      · have e : kdK r = 8 := by simp [kdK, h1, h2, h3, h4, h5, h6, h7, h8, h9]
        rw [e]
        omega
theorem cls_cases (k : Nat) : (cls k = 7 ∧ (k = 3 ∨ k = 4)) ∨ (cls k = 8 ∧ ¬ (k = 3 ∨ k = 4)) := by
  unfold cls
  by_cases h3 : k = 3
  · simp [h3]
  · by_cases h4 : k = 4
    · simp [h4]
    · simp [h3, h4]
/-- what At may answer -/
theorem atC_cases (l : List Int) (i : Nat) : (¬ kd l[i]! < 8 ∧ atC l i = 0) ∨ (kd l[i]! < 8 ∧ (atC l i = 0 ∨ (atC l i = 7 ∧ (l[i]! = 8204 ∨ l[i]! = 8205)) ∨ (atC l i = 8 ∧ l[i]! ≠ 8204 ∧ l[i]! ≠ 8205))) := by
  unfold atC
  by_cases h : kd l[i]! < 8
  · refine .inr ⟨h, ?_⟩
    by_cases ho : ok l i (kd l[i]!) = false
    · rw [if_pos ⟨h, ho⟩]
      rcases cls_cases (kd l[i]!) with ⟨e, hk⟩ | ⟨e, hk⟩
      · exact .inr (.inl ⟨e, kd_join.1 hk⟩)
      · have := fun x => hk (kd_join.2 x)
        exact .inr (.inr ⟨e, fun x => this (.inl x), fun x => this (.inr x)⟩)
    · rw [if_neg (fun x => ho x.2)]
      exact .inl rfl
  · exact .inl ⟨h, by rw [if_neg (fun x => h x.1)]⟩
theorem chk_plain {R : List Int} (h : ∀ x ∈ R, ¬ kd x < 8) : chkC R = 0 :=
  chk_none (fun j hj => (atC_cases R j).elim (fun x => x.2) (fun x => absurd x.1 (h _ (mems hj))))
set_option maxRecDepth 100000 in
set_option maxHeartbeats 2000000 in
theorem asks_any (r : Int) (w : World) : Calls Tryd.prog 9 #[.int .i32 r] w (IsB (decide (kd r < 8)) w) := by
  by_cases h0 : r = 8204
  · have HV : Hid (decide (kd r < 8) = true) := Lib.hid (by rw [decide_eq_true_eq, kd_lt]; omega)
    go_enter Tryd.func9, Tryd.ntmps9
    go_wp2
    go_ret
    exact ⟨by rw [HV.out]; first | rfl | simp, Below.refl _ _⟩
  · have b0 : (r == 8204) = false := by simpa using h0
    by_cases h1 : r = 8205
    · have HV : Hid (decide (kd r < 8) = true) := Lib.hid (by rw [decide_eq_true_eq, kd_lt]; omega)
      go_enter Tryd.func9, Tryd.ntmps9
      go_wp2
      go_ret
      exact ⟨by rw [HV.out]; first | rfl | simp, Below.refl _ _⟩
    · have b1 : (r == 8205) = false := by simpa using h1
      by_cases h2 : r = 183
      · have HV : Hid (decide (kd r < 8) = true) := Lib.hid (by rw [decide_eq_true_eq, kd_lt]; omega)
        go_enter Tryd.func9, Tryd.ntmps9
        go_wp2
        go_ret
        exact ⟨by rw [HV.out]; first | rfl | simp, Below.refl _ _⟩
      · have b2 : (r == 183) = false := by simpa using h2
        by_cases h3 : r = 885
        · have HV : Hid (decide (kd r < 8) = true) := Lib.hid (by rw [decide_eq_true_eq, kd_lt]; omega)
          go_enter Tryd.func9, Tryd.ntmps9
          go_wp2
          go_ret
          exact ⟨by rw [HV.out]; first | rfl | simp, Below.refl _ _⟩
        · have b3 : (r == 885) = false := by simpa using h3
          by_cases h4 : r = 1523
          · have HV : Hid (decide (kd r < 8) = true) := Lib.hid (by rw [decide_eq_true_eq, kd_lt]; omega)
            go_enter Tryd.func9, Tryd.ntmps9
            go_wp2
            go_ret
            exact ⟨by rw [HV.out]; first | rfl | simp, Below.refl _ _⟩
          · have b4 : (r == 1523) = false := by simpa using h4
            by_cases h5 : r = 1524
            · have HV : Hid (decide (kd r < 8) = true) := Lib.hid (by rw [decide_eq_true_eq, kd_lt]; omega)
              go_enter Tryd.func9, Tryd.ntmps9
              go_wp2
              go_ret
              exact ⟨by rw [HV.out]; first | rfl | simp, Below.refl _ _⟩
            · have b5 : (r == 1524) = false := by simpa using h5
              by_cases h6 : r = 12539
              · have HV : Hid (decide (kd r < 8) = true) := Lib.hid (by rw [decide_eq_true_eq, kd_lt]; omega)
                go_enter Tryd.func9, Tryd.ntmps9
                go_wp2
                go_ret
                exact ⟨by rw [HV.out]; first | rfl | simp, Below.refl _ _⟩
              · have b6 : (r == 12539) = false := by simpa using h6
                by_cases h7 : 1632 ≤ r
                · by_cases h8 : r ≤ 1641
                  · have HV : Hid (decide (kd r < 8) = true) := Lib.hid (by rw [decide_eq_true_eq, kd_lt]; omega)
                    go_enter Tryd.func9, Tryd.ntmps9
                    go_wp2
                    go_ret
                    exact ⟨by rw [HV.out]; first | rfl | simp, Below.refl _ _⟩
                  · by_cases h9 : 1776 ≤ r
                    · by_cases h10 : r ≤ 1785
                      · have HV : Hid (decide (kd r < 8) = true) := Lib.hid (by rw [decide_eq_true_eq, kd_lt]; omega)
                        go_enter Tryd.func9, Tryd.ntmps9
                        go_wp2
                        go_ret
                        exact ⟨by rw [HV.out]; first | rfl | simp, Below.refl _ _⟩
                      · have HV : Hid (decide (kd r < 8) = false) := Lib.hid (by rw [decide_eq_false_iff_not, kd_lt]; omega)
                        go_enter Tryd.func9, Tryd.ntmps9
                        go_wp2
                        go_ret
                        exact ⟨by rw [HV.out]; first | rfl | simp, Below.refl _ _⟩
                    · have HV : Hid (decide (kd r < 8) = false) := Lib.hid (by rw [decide_eq_false_iff_not, kd_lt]; omega)
                      go_enter Tryd.func9, Tryd.ntmps9
                      go_wp2
                      go_ret
                      exact ⟨by rw [HV.out]; first | rfl | simp, Below.refl _ _⟩
                · have h9 : ¬ 1776 ≤ r := by omega
                  have HV : Hid (decide (kd r < 8) = false) := Lib.hid (by rw [decide_eq_false_iff_not, kd_lt]; omega)
                  go_enter Tryd.func9, Tryd.ntmps9
                  go_wp2
                  go_ret
                  exact ⟨by rw [HV.out]; first | rfl | simp, Below.refl _ _⟩
end Go.Proofs.YtmeihnhghdmjiaaDoor.Ctx
