/-
  What PunyGreat's walk wants.
-/
import Derived.Test.YtcdjjodiiaahfaaPunyQ
import Derived.OwnWalk
namespace Go.Proofs.Ytcdjjodiiaahfaa
open Go.RowKit Go.Shelf Puny

theorem made0 (n : Nat) : (madeCells (Value.int .i32 0).cells (n * 1)).toList = cn (List.replicate n 0) := by
  have e : (Value.int .i32 0).cells = #[.int .i32 0] := rfl
  rw [e, Nat.mul_one]
  unfold madeCells
  apply List.ext_getElem
  · simp
  · intro i h1 h2
    simp [Nat.mod_one]

theorem own_sized {w : World} {base : Nat} {e : TypeId} {size n : Nat} {v : Value} {xs : List Value} (h : w.ownsRow base e size v n xs) (hn : 0 < n) : ∃ g c, v = .slice (some ⟨g, 0, none⟩) n c ∧ n ≤ c ∧ c ≤ maxLen ∧ base ≤ g ∧ g < w.heap.size := by
  rcases h.2 with ⟨rfl, rfl⟩ | ⟨g, cap, cur, rfl, hb, hg, hc, hm, _⟩
  · omega
  · exact ⟨g, cap, rfl, hc, hm, hb, (Array.getElem?_eq_some_iff.1 hg).1⟩

theorem cn_set (l : List Nat) (j : Nat) (x : Nat) : (cn l).set j (.int .i32 (x : Int)) = cn (l.set j x) := by rw [cn, cn, List.map_set]

theorem oth_zero (n : Nat) : oth (List.replicate n 0) n = [] := by
  unfold oth
  rw [List.filter_eq_nil_iff]
  intro x hx
  have := List.mem_of_mem_take hx
  rw [List.mem_replicate] at this
  simp [this.2]
theorem take_set' (n m r : Nat) (h : 7 < m) (hm : m ≤ n) : ((List.replicate n 0).set 7 r).take m = List.replicate 7 0 ++ r :: List.replicate (m - 8) 0 := by
  rw [List.take_set, List.take_replicate, Nat.min_eq_left hm, List.set_eq_take_append_cons_drop, if_pos (by rw [List.length_replicate]; exact h), List.take_replicate, List.drop_replicate, Nat.min_eq_left (by omega)]
theorem take_set (r : Nat) : ((List.replicate 2001 0).set 7 r).take 2000 = List.replicate 7 0 ++ r :: List.replicate 1992 0 := take_set' 2001 2000 r (by omega) (by omega)
theorem len_set (r : Nat) : (((List.replicate 2001 0).set 7 r).take 2000).length = 2000 := by
  rw [take_set, List.length_append, List.length_cons, List.length_replicate, List.length_replicate]
theorem oth_set (r : Nat) : (oth (((List.replicate 2001 0).set 7 r).take 2000) 2000).length ≤ 12 := by
  unfold oth
  rw [List.take_of_length_le (Nat.le_of_eq (len_set r)), take_set, List.filter_append, List.filter_cons]
  have h1 : ∀ n, (List.replicate n 0).filter (fun x : Nat => decide (128 ≤ x)) = [] := fun n => by
    rw [List.filter_eq_nil_iff]; intro x hx; rw [List.mem_replicate] at hx; simp [hx.2]
  rw [h1, h1]
  split <;> simp

theorem sca_zero (n : Nat) : ∀ x ∈ List.replicate n 0, sca x = true := fun x hx => by
  rw [List.mem_replicate] at hx; rw [hx.2]; decide
theorem sca_set {r : Nat} (hr : sca r = true) : ∀ x ∈ ((List.replicate 2001 0).set 7 r).take 2000, sca x = true := fun x hx => by
  rw [take_set] at hx
  rcases List.mem_append.1 hx with h | h
  · exact sca_zero _ x h
  · rcases List.mem_cons.1 h with rfl | h
    · exact hr
    · exact sca_zero _ x h
theorem sca_int {r : Int} (h : isSca r = true) : sca r.toNat = true := by
  have h0 := isSca_nonneg h
  unfold isSca at h
  unfold sca
  simp at h ⊢
  omega

theorem conv_byte (c : Int) (w : World) : (convert 34 9 (.slice (some ⟨w.heap.size, 0, none⟩) 1 1)).run Try.prog (w.alloc (.cells #[.int .u8 c] 5)) = .ok (.string (strOfNums [c])) (w.alloc (.cells #[.int .u8 c] 5)) :=
  run_convert_bytes_arg _ 34 5 Try.underlying34 Try.underlying5 w.heap.size 0 1 1 [c] (by simp) (fun i hi => by
    obtain rfl : i = 0 := by omega
    exact news_new w #[.int .u8 c] 5 [.int .u8 c] rfl 0 (.int .u8 c) rfl) 9 Try.underlying9

theorem strOf1 (c : Int) : (strOfNums [c]).data.toList.length = 1 := by rw [strOfNums_data]; rfl
theorem strOf1_size (c : Int) : (strOfNums [c]).size = 1 := by rw [Lib.size_eq, strOf1]
theorem rep_size (c : Int) : (⟨(Lib.repeatL (strOfNums [c]).data.toList 10001).toArray⟩ : ByteArray).size = 10001 := by
  rw [Lib.size_eq, List.toList_toArray, Lib.repeatL_length, strOf1]
theorem row_take {w : World} {B : Nat} {A : Option Addr} {l : List Nat} (h : Row w B A (cn l)) (m : Nat) : Row w B A (cn (l.take m)) := by
  rcases h with h | ⟨b, o, hA, hb, hc⟩
  · obtain rfl : l = [] := by simpa [cn] using h
    exact .inl (by simp [cn])
  · refine .inr ⟨b, o, hA, hb, fun k hk => ?_⟩
    have hk' : k < (l.take m).length := by simpa [cn] using hk
    rw [List.length_take] at hk'
    rw [hc k (by simp [cn]; omega)]
    simp only [cn, List.getElem?_map, List.getElem?_take]
    rw [if_pos (by omega)]
theorem zeros_take (n m : Nat) (h : m ≤ n) : (List.replicate n 0).take m = List.replicate m 0 := by rw [List.take_replicate, Nat.min_eq_left h]
end Go.Proofs.Ytcdjjodiiaahfaa
