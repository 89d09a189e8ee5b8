/-
  The contract of puny.others.
-/
import Derived.Test.YtcdjjodiiaahfaaSortA
import Derived.Test.YtcdjjodiiaahfaaAppendRow
namespace Go.Proofs.Ytcdjjodiiaahfaa
open Go.RowKit Puny Go.Shelf

def oth (l : List Nat) (k : Nat) : List Nat := (l.take k).filter (128 ≤ ·)
theorem oth_yes {l : List Nat} {k : Nat} (hk : k < l.length) (h : 128 ≤ l[k]) : oth l (k + 1) = oth l k ++ [l[k]] := by
  unfold oth; rw [List.take_succ_eq_append_getElem hk, List.filter_append]; simp [h]
theorem oth_no {l : List Nat} {k : Nat} (hk : k < l.length) (h : ¬ 128 ≤ l[k]) : oth l (k + 1) = oth l k := by
  unfold oth; rw [List.take_succ_eq_append_getElem hk, List.filter_append, List.filter_cons, if_neg (by simpa using h)]; simp
theorem oth_len (l : List Nat) (k : Nat) : (oth l k).length ≤ l.length := Nat.le_trans (List.length_filter_le _ _) (by rw [List.length_take]; omega)
theorem oth_all (l : List Nat) : ms l = once ((oth l l.length).mergeSort (fun a b => decide (a ≤ b))) := by unfold ms oth; rw [List.take_length]

theorem cn_get (l : List Nat) (i : Nat) (h : i < l.length) : (cn l)[i]? = some (.int .i32 (l[i] : Int)) := by simp [h]
theorem one_cn (l : List Nat) : ∀ u ∈ cn l, u.oneCell' = true := by
  intro u hu
  obtain ⟨x, _, rfl⟩ := List.mem_map.1 hu
  simp [Value.oneCell']
theorem below_of_grown {w w' : World} (h : w.grownBy w' none) : Below w.heap.size w w' := ⟨h.os, h.tape, h.output, h.size, fun j hj => h.block j hj (by simp)⟩

def Othered (l : List Nat) (w : World) (e : Ending) (w' : World) : Prop :=
  ∃ v, e = .returned v ∧ w'.ownsRow w.heap.size 21 1 v (ms l).length (cn (ms l)) ∧ Below w.heap.size w w'

set_option maxRecDepth 100000 in
set_option maxHeartbeats 1000000 in
theorem others_any (N : Nat) (hS : SortOk N) (hN : N ≤ 100000) (l : List Nat) (A : Option Addr) (n c : Nat) (w : World) (hn : l.length = n) (ho : (oth l n).length ≤ N) (hm : n ≤ 100000) (hr : Row w w.heap.size A (cn l)) :
    Calls Try.prog 44 #[.slice A n c] w (Othered l w) := by
  obtain ⟨i0, hi, hz0, hz1, hz2⟩ := info_parts info_i32
  have HN := Lib.hid hn
  have HSO := Lib.hid hS
  clear hn hS
  go_enter Try.func44, Try.ntmps44
  go_wp2
  go_loopw [3, 8] (fun o i wr => ∃ k : Nat, k ≤ n ∧ i = .int .i64 k ∧ wr.ownsRow w.heap.size 21 1 o (oth l k).length (cn (oth l k)) ∧ Below w.heap.size w wr) (fun _ i _ => n - (intOf i).toNat)
  case atStart => exact ⟨0, Nat.zero_le _, rfl, by simpa [oth] using World.ownsRow_nil _ _ _ _, Below.refl _ _⟩
  case round =>
    obtain ⟨k, hk, rfl, hown, hB⟩ := hrel
    have hsz := hB.size
    by_cases hlt : k < n
    · have hkl : k < l.length := by rw [HN.out]; exact hlt
      obtain ⟨b, off, rfl, hb, hc⟩ := (hr.below hB).at_ (by simp; omega)
      have hcell := hc k (by simp; omega)
      rw [cn_get _ _ hkl] at hcell
      have hol := oth_len l k
      rw [HN.out] at hol
      have HC := Lib.hid hc
      have HR := Lib.hid hr
      clear hc hr
      obtain ⟨x, hx⟩ : ∃ x, l[k] = x := ⟨_, rfl⟩
      rw [hx] at hcell
      have HX := Lib.hid hx
      clear hx
      by_cases hbig : 128 ≤ x
      · go_wp2_with (first
          | (at_builtin; refine wpList_append_own_at _ rfl _ _ 22 rfl w.heap.size 21 i0 (.int .i32 0) 1 4 Try.underlying22 hi hz0 hz1 hz2 rfl (by decide) _ _ _ rfl (hown.alloc _) ⟨wr.heap.size, 0, none⟩ 1 1 _ rfl (by rfl) (news_new _ _ _ _ rfl) (by simp [Value.oneCell']) (by unfold maxLen; omega) (by omega) (by simp; omega) ?_; intro v' w2 hown2 hgrow2 _ _)
          | fail)
        go_roundw
        case rel =>
          refine ⟨k + 1, by omega, by go_num, ?_, (hB.alloc hsz _).grown hgrow2 (by simp; omega) (fun j e => (hown.lt j e).1)⟩
          rw [oth_yes hkl (by rw [HX.out]; exact hbig), HX.out, List.length_append]
          simpa using hown2
        case measure => simp [intOf]; omega
      · go_wp2
        go_roundw
        case rel => exact ⟨k + 1, by omega, by go_num, by rw [oth_no hkl (by rw [HX.out]; exact hbig)]; exact hown, hB⟩
        case measure => simp [intOf]; omega
    · obtain rfl : k = n := by omega
      have HO := Lib.hid (oth_all l)
      rw [HN.out] at HO
      obtain ⟨f, hf⟩ : ∃ f, oth l k = f := ⟨_, rfl⟩
      rw [hf] at hown ho HO
      have hol := oth_len l k
      rw [hf, HN.out] at hol
      clear hf
      rcases hown.2 with ⟨rfl, h0⟩ | ⟨g, cap, cur, rfl, _⟩
      · have hf0 : f = [] := List.eq_nil_of_length_eq_zero h0
        subst hf0
        go_wp2_with (first
          | (go_at_call 57; refine (Sort_none _).mono ?_; rintro e w' ⟨rfl, rfl⟩)
          | (go_at_call 58; refine (Compact_none _).mono ?_; rintro e w' ⟨rfl, rfl⟩)
          | fail)
        go_ret
        exact ⟨_, rfl, by rw [HO.out]; simpa [once] using World.ownsRow_nil _ _ _ _, hB⟩
      · have hsl : (f.mergeSort fun a b => decide (a ≤ b)).length = f.length := List.length_mergeSort _
        have hsp : (f.mergeSort fun a b => decide (a ≤ b)).Pairwise (· ≤ ·) := by
          have := List.pairwise_mergeSort (le := fun a b : Nat => decide (a ≤ b)) (by intro a b c; simp; omega) (by intro a b; simp; omega) f
          exact this.imp fun h => by simpa using h
        obtain ⟨s, hs⟩ : ∃ s, (f.mergeSort fun a b => decide (a ≤ b)) = s := ⟨_, rfl⟩
        have c1 := HSO.out w.heap.size g cap f wr ho hown
        rw [hs] at c1 hsl hsp HO
        rw [← hsl] at c1
        have C1 := Lib.hid c1
        have HL := Lib.hid hsl
        have HP := Lib.hid hsp
        have hlt0 := hown.lt g rfl
        rw [← hsl]
        clear c1 hs hsl hsp
        go_wp2_with (first
          | (go_at_call 57; refine C1.out.mono ?_; rintro e w1 ⟨rfl, hown1, hg1⟩)
          | (go_at_call 58; refine (Compact_any w.heap.size g cap s _ HP.out (by rw [HL.out]; omega) hown1).mono ?_; rintro e w2 ⟨v2, rfl, hown2, hg2⟩)
          | fail)
        go_ret
        exact ⟨_, rfl, by rw [HO.out]; exact hown2, (hB.grown hg1 hsz (fun j e => by cases e; exact hlt0.1)).grown hg2 (by have := hg1.size; omega) (fun j e => by cases e; exact hlt0.1)⟩
end Go.Proofs.Ytcdjjodiiaahfaa
