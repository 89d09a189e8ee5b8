/-
  Encode of any row of code points that isn't too long; texts that are told of rows, as texts.
-/
import Derived.Test.YtcdjjodiiaahfaaPunyS
import Derived.Test.YtcdjjodiiaahfaaSortK
import Derived.Test.YtcdjjodiiaahfaaPunyR
namespace Go.Proofs.Ytcdjjodiiaahfaa
open Go.RowKit Go.Shelf Puny

theorem scs_sca (l : List Int) : ∀ x ∈ scs l, sca x = true := fun x hx => by
  unfold scs at hx
  obtain ⟨y, hy, rfl⟩ := List.mem_map.1 hx
  exact sca_int (List.mem_filter.1 hy).2
theorem cl_sca {l : List Int} (h : l.all isSca = true) : cl .i32 l = cn (scs l) := by
  unfold scs cl cn
  rw [List.filter_eq_self.2 (List.all_eq_true.1 h), List.map_map]
  refine List.map_congr_left fun x hx => ?_
  have := isSca_nonneg (List.all_eq_true.1 h x hx)
  simp only [Function.comp]
  rw [Int.toNat_of_nonneg this.1]
theorem scs_full (l : List Int) : (((scs l).length : Int) == (l.length : Int)) = l.all isSca := by
  unfold scs
  rw [List.length_map]
  cases h : l.all isSca with
  | true => rw [List.filter_eq_self.2 (List.all_eq_true.1 h)]; simp
  | false =>
    have h1 := List.length_filter_le isSca l
    have h2 : (l.filter isSca).length ≠ l.length := fun e => by
      have := (List.length_filter_eq_length_iff).1 e
      rw [List.all_eq_false] at h
      obtain ⟨x, hx, hx2⟩ := h
      exact hx2 (this x hx)
    simp
    omega
/-- what Encode answers to any code points, as far as it is asked here -/
def EncZ (l : List Int) (w : World) (e : Ending) (w' : World) : Prop := ∃ (s : ByteArray) (k : Int), e = .returned (.tuple #[.string s, .int .i64 k]) ∧ Hid ((k == 0) = l.all isSca) ∧ Below w.heap.size w w'
theorem EncodeZ_any (l : List Int) (A : Option Addr) (len cap : Nat) (w : World) (hlen : l.length = len) (hm : len ≤ 900) (hr : Row w w.heap.size A (cl .i32 l)) (hw : ∀ x ∈ l, -2147483648 ≤ x ∧ x ≤ 2147483647) :
    Calls Try.prog 9 #[.slice A len cap] w (EncZ l w) := by
  cases hs : l.all isSca with
  | true =>
    have hl2 : (scs l).length = len := by
      have := scs_full l
      rw [hs] at this
      simp at this
      omega
    exact (Encode_any 900 sortOk900 (by omega) (scs l) A len cap w hl2 (Nat.le_trans (oth_len _ _) (by omega)) (by omega) (scs_sca l) (by rw [← cl_sca hs]; exact hr)).mono fun _ _ ⟨s, he, _, hB⟩ => ⟨s, 0, he, Lib.hid (by rw [hs]; rfl), hB⟩
  | false => exact (Encode_wrong l A len cap w hlen (by omega) hr hw hs).mono fun _ _ ⟨he, hB⟩ => ⟨_, 40, he, Lib.hid (by rw [hs]; rfl), hB⟩
theorem EncodeN_any (l : List Nat) (A : Option Addr) (len cap : Nat) (w : World) (hlen : l.length = len) (hm : len ≤ 900) (hs : ∀ x ∈ l, sca x = true) (hr : Row w w.heap.size A (cn l)) :
    Calls Try.prog 9 #[.slice A len cap] w (Encoded l w) :=
  Encode_any 900 sortOk900 (by omega) l A len cap w hlen (Nat.le_trans (oth_len _ _) (by omega)) (by omega) hs hr

theorem bytes_ext {s t : ByteArray} : s = t ↔ s.data.toList = t.data.toList := ⟨fun h => by rw [h], fun h => by cases s; cases t; simpa using h⟩
theorem str_beq (s t : ByteArray) : (s.toList == t.toList) = decide (s = t) := by
  rw [ByteArray.toList_eq, ByteArray.toList_eq]
  by_cases h : s = t
  · subst h; simp
  · rw [decide_eq_false h]
    exact beq_eq_false_iff_ne.2 fun e => h (bytes_ext.2 e)
end Go.Proofs.Ytcdjjodiiaahfaa
