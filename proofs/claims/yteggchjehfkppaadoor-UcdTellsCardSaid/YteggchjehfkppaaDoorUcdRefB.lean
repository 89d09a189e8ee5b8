/-
  The document's own answer of layer 2: which part of its table (fasciaref02.rows), and Of.
-/
import Derived.Test.YteggchjehfkppaaDoorUcdRefA
import Derived.Test.YteggchjehfkppaaDoorUcdRefRows
import Derived.Deep.QuietTactic
import Derived.BigQuiet
namespace Go.Proofs.YteggchjehfkppaaDoor
open Go.RowKit Ucd

/-- where the part begins in which r would be, and how many rows it has -/
def pb (r : Int) : Nat := if r < 127 then 0 else if r < 1030 then 34 else if r < 1617 then 68 else if r < 8238 then 102 else 136
def pn (r : Int) : Nat := if r < 8238 then 34 else 30

set_option maxRecDepth 100000 in
set_option maxHeartbeats 1000000 in
theorem RefRows_any (r : Int) (w : World) : Calls Tryd.prog 28 #[.int .i32 r] w fun e w' => e = .returned (.slice (some ⟨w.heap.size, 0, none⟩) (pn r) (pn r)) ∧ w' = w.alloc (.cells (RD (pb r) (pn r)).toArray 45) := by
  by_cases h1 : r < 127
  · rw [show pb r = 0 from by simp [pb, h1], show pn r = 34 from by simp [pn]; omega]
    go_enter Tryd.func28, Tryd.ntmps28
    go_wp2_with (go_at_call 19; refine (rows1_any _).mono ?_; rintro e w' ⟨rfl, _⟩)
    go_ret
    exact ⟨rfl, rfl⟩
  · by_cases h2 : r < 1030
    · rw [show pb r = 34 from by simp [pb, h1, h2], show pn r = 34 from by simp [pn]; omega]
      go_enter Tryd.func28, Tryd.ntmps28
      go_wp2_with (go_at_call 20; refine (rows2_any _).mono ?_; rintro e w' ⟨rfl, _⟩)
      go_ret
      exact ⟨rfl, rfl⟩
    · by_cases h3 : r < 1617
      · rw [show pb r = 68 from by simp [pb, h1, h2, h3], show pn r = 34 from by simp [pn]; omega]
        go_enter Tryd.func28, Tryd.ntmps28
        go_wp2_with (go_at_call 21; refine (rows3_any _).mono ?_; rintro e w' ⟨rfl, _⟩)
        go_ret
        exact ⟨rfl, rfl⟩
      · by_cases h4 : r < 8238
        · rw [show pb r = 102 from by simp [pb, h1, h2, h3, h4], show pn r = 34 from by simp [pn, h4]]
          go_enter Tryd.func28, Tryd.ntmps28
          go_wp2_with (go_at_call 22; refine (rows4_any _).mono ?_; rintro e w' ⟨rfl, _⟩)
          go_ret
          exact ⟨rfl, rfl⟩
        · rw [show pb r = 136 from by simp [pb, h1, h2, h3, h4], show pn r = 30 from by simp [pn, h4]]
          go_enter Tryd.func28, Tryd.ntmps28
          go_wp2_with (go_at_call 23; refine (rows5_any _).mono ?_; rintro e w' ⟨rfl, _⟩)
          go_ret
          exact ⟨rfl, rfl⟩

theorem RD_get (b n i k : Nat) (h : i < n) (hk : k < 9) : (RD b n)[i * 9 + k]? = (rd (b + i))[k]? := by
  have hs : ∀ n, RD b (n + 1) = RD b n ++ rd (b + n) := fun n => by simp [RD, List.range_succ]
  have hl : ∀ n, (RD b n).length = n * 9 := fun n => by
    induction n with
    | zero => rfl
    | succ n ih => rw [hs, List.length_append, ih]; simp [rd]; omega
  induction n with
  | zero => omega
  | succ n ih =>
    rw [hs]
    rcases Nat.lt_or_ge i n with h1 | h1
    · rw [List.getElem?_append_left (by rw [hl]; omega), ih h1]
    · obtain rfl : i = n := by omega
      rw [List.getElem?_append_right (by rw [hl]; omega), hl, Nat.add_sub_cancel_left]

/-- the part has every row that could have r -/
theorem part_ok (r : Int) {i : Nat} (hi : i < 166) (h : fr i ≤ r ∧ r ≤ to i) : pb r ≤ i ∧ i < pb r + pn r := by
  have a34 := fr_bd (i := 34) (by omega)
  have hb : fr 34 = 127 ∧ fr 68 = 1030 ∧ fr 102 = 1617 ∧ fr 136 = 8238 ∧ to 33 < 127 ∧ to 67 < 1030 ∧ to 101 < 1617 ∧ to 135 < 8238 := by decide +kernel
  unfold pb pn
  have up : ∀ k, k < 166 → r < fr k → i < k := fun k hk hr => by
    rcases Nat.lt_or_ge i k with h1 | h1
    · exact h1
    · rcases Nat.lt_or_ge k i with h2 | h2
      · have := rise (i := k) i h2 hi; have := fr_bd hk; omega
      · obtain rfl : k = i := by omega
        omega
  have dn : ∀ k, k + 1 < 166 → to k < r → k < i := fun k hk hr => by
    rcases Nat.lt_or_ge k i with h1 | h1
    · exact h1
    · have := to_mono (i := i) (j := k) h1 (by omega)
      omega
  split
  · have := up 34 (by omega) (by omega); split <;> omega
  · split
    · have := up 68 (by omega) (by omega); have := dn 33 (by omega) (by omega); split <;> omega
    · split
      · have := up 102 (by omega) (by omega); have := dn 67 (by omega) (by omega); split <;> omega
      · split
        · have := up 136 (by omega) (by omega); have := dn 101 (by omega) (by omega); omega
        · have := dn 135 (by omega) (by omega); omega

end Go.Proofs.YteggchjehfkppaaDoor
