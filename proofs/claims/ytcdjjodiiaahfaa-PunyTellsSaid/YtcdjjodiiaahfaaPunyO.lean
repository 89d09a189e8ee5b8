/-
  The contracts of what the statements of layer 4 use: Same, scalars, none, awake.
-/
import Derived.Test.YtcdjjodiiaahfaaPunyN
namespace Go.Proofs.Ytcdjjodiiaahfaa
open Go.RowKit Go.Shelf Puny

/-- a bool, and nothing that lay before has turned -/
def IsB (b : Bool) (w : World) (e : Ending) (w' : World) : Prop := e = .returned (.bool b) ∧ Below w.heap.size w w'

theorem IsB.drewN {b : Bool} {w : World} {e : Ending} (he : e = .returned (.bool b)) (q : Nat) : IsB b w e (w.drewN q) := ⟨he, ⟨rfl, rfl, rfl, Nat.le_refl _, fun _ _ => rfl⟩⟩

theorem IsB.drewN2 {b : Bool} {w : World} {e : Ending} (he : e = .returned (.bool b)) (q q' : Nat) : IsB b w e ((w.drewN q).drewN q') := ⟨he, ⟨rfl, rfl, rfl, Nat.le_refl _, fun _ _ => rfl⟩⟩

theorem all_eq {α : Type} {a b : List α} {n : Nat} (ha : a.length = n) (hb : b.length = n) (h : ∀ j, j < n → a[j]? = b[j]?) : a = b := by
  refine List.ext_getElem? fun j => ?_
  by_cases hj : j < n
  · exact h j hj
  · rw [List.getElem?_eq_none (by omega), List.getElem?_eq_none (by omega)]

set_option maxHeartbeats 1000000 in
theorem Same_any (a b : List Int) (A B : Option Addr) (n m c d : Nat) (w : World) (hn : a.length = n) (hm : b.length = m) (hn1 : n ≤ 1000000) (hm1 : m ≤ 1000000) (hra : Row w w.heap.size A (cl .i32 a)) (hrb : Row w w.heap.size B (cl .i32 b)) :
    Calls Try.prog 13 #[.slice A n c, .slice B m d] w (IsB (decide (a = b)) w) := by
  by_cases hnm : n = m
  · have HN := Lib.hid hn
    subst hnm
    have HM := Lib.hid hm
    clear hn hm
    go_enter Try.func13, Try.ntmps13
    go_wp2
    go_loopw [13] (fun i wr => ∃ k : Nat, k ≤ n ∧ i = .int .i64 k ∧ (∀ j, j < k → a[j]? = b[j]?) ∧ ∃ q, wr = w.drewN q) (fun i _ => n - (intOf i).toNat)
    case atStart => exact ⟨0, by omega, rfl, by omega, 0, rfl⟩
    case round =>
      obtain ⟨k, hk, rfl, hall, q, rfl⟩ := hrel
      have HA := Lib.hid hall
      clear hall
      by_cases hlt : k < n
      · have hka : k < a.length := by rw [HN.out]; exact hlt
        have hkb : k < b.length := by rw [HM.out]; exact hlt
        obtain ⟨b1, o1, rfl, hb1, hc1⟩ := hra.at_ (by simp; omega)
        obtain ⟨b2, o2, rfl, hb2, hc2⟩ := hrb.at_ (by simp; omega)
        have g1 := hc1 k (by simp; omega)
        have g2 := hc2 k (by simp; omega)
        rw [cl_get _ _ _ hka] at g1
        rw [cl_get _ _ _ hkb] at g2
        obtain ⟨x, hx⟩ : ∃ x, a[k] = x := ⟨_, rfl⟩
        obtain ⟨y, hy⟩ : ∃ y, b[k] = y := ⟨_, rfl⟩
        rw [hx] at g1
        rw [hy] at g2
        have HX := Lib.hid hx
        have HY := Lib.hid hy
        clear hx hy hc1 hc2 hra hrb
        by_cases hxy : x = y
        · subst hxy
          go_wp2
          go_quiet (fail)
          go_wp2
          go_roundw
          case rel =>
            refine ⟨k + 1, by omega, by go_num, fun j hj => ?_, _, rfl⟩
            by_cases hjk : j < k
            · exact HA.out j hjk
            · obtain rfl : j = k := by omega
              rw [List.getElem?_eq_getElem hka, List.getElem?_eq_getElem hkb, HX.out, HY.out]
          case measure => simp [intOf]; omega
        · have hne : (x != y) = true := by simpa using hxy
          go_wp2
          go_quiet (fail)
          go_wp2
          go_ret
          refine IsB.drewN2 (ret_bool ?_) _ _
          rw [decide_eq_false (fun e => hxy (by rw [← HX.out, ← HY.out]; simp [e]))]
      · obtain rfl : k = n := by omega
        go_wp2
        go_ret
        exact IsB.drewN (ret_bool (decide_eq_true (all_eq HN.out HM.out HA.out)).symm) _
  · have hne : ((n : Int) != (m : Int)) = true := by simp; omega
    go_enter Try.func13, Try.ntmps13
    go_wp2
    go_ret
    refine ⟨ret_bool ?_, Below.refl _ _⟩
    have : a ≠ b := fun e => hnm (by rw [← hn, ← hm, e])
    simp [this]


theorem cn_cl (l : List Nat) : cn l = cl .i32 (l.map fun n : Nat => (n : Int)) := by simp [cn, cl]
theorem SameN_any (a b : List Nat) (A B : Option Addr) (n m c d : Nat) (w : World) (hn : a.length = n) (hm : b.length = m) (hn1 : n ≤ 1000000) (hm1 : m ≤ 1000000) (hra : Row w w.heap.size A (cn a)) (hrb : Row w w.heap.size B (cn b)) :
    Calls Try.prog 13 #[.slice A n c, .slice B m d] w (IsB (decide (a = b)) w) := by
  have h := Same_any (a.map fun n : Nat => (n : Int)) (b.map fun n : Nat => (n : Int)) A B n m c d w (by simpa using hn) (by simpa using hm) hn1 hm1 (by rw [← cn_cl]; exact hra) (by rw [← cn_cl]; exact hrb)
  have e : decide ((a.map fun n : Nat => (n : Int)) = b.map fun n : Nat => (n : Int)) = decide (a = b) := by
    rw [decide_eq_decide]
    exact List.map_inj_right (fun x y h => by omega)
  rw [e] at h
  exact h

/-- those of some numbers that are scalars -/
def scs (l : List Int) : List Nat := (l.filter isSca).map Int.toNat
theorem scs_nil : scs [] = [] := rfl
theorem scs_yes {l : List Int} {x : Int} (h : isSca x = true) : scs (l ++ [x]) = scs l ++ [x.toNat] := by simp [scs, h]
theorem scs_no {l : List Int} {x : Int} (h : isSca x = false) : scs (l ++ [x]) = scs l := by simp [scs, h]
theorem scs_len (l : List Int) : (scs l).length ≤ l.length := by unfold scs; rw [List.length_map]; exact List.length_filter_le _ _
theorem isSca_nonneg {x : Int} (h : isSca x = true) : 0 ≤ x ∧ x ≤ 1114111 := by unfold isSca at h; simp at h; omega

def Scaled (l : List Int) (w : World) (e : Ending) (w' : World) : Prop :=
  ∃ v, e = .returned v ∧ w'.ownsRow w.heap.size 21 1 v (scs l).length (cn (scs l)) ∧ Below w.heap.size w w'

set_option maxRecDepth 100000 in
set_option maxHeartbeats 2000000 in
theorem scalars_any (l : List Int) (A : Option Addr) (n c : Nat) (w : World) (hn : l.length = n) (hm : n ≤ 100000) (hr : Row w w.heap.size A (cl .i32 l)) :
    Calls Try.prog 14 #[.slice A n c] w (Scaled l w) := by
  obtain ⟨i0, hi, hz0, hz1, hz2⟩ := info_parts info_i32
  have HN := Lib.hid hn
  clear hn
  go_enter Try.func14, Try.ntmps14
  go_wp2
  go_loopw [3, 8] (fun o i wr => ∃ k : Nat, k ≤ n ∧ i = .int .i64 k ∧ wr.ownsRow w.heap.size 21 1 o (scs (l.take k)).length (cn (scs (l.take k))) ∧ Below w.heap.size w wr) (fun _ i _ => n - (intOf i).toNat)
  case atStart => exact ⟨0, Nat.zero_le _, rfl, by simpa [scs_nil] using World.ownsRow_nil _ _ _ _, Below.refl _ _⟩
  case round =>
    obtain ⟨k, hk, rfl, hown, hB⟩ := hrel
    have hsz := hB.size
    by_cases hlt : k < n
    · have hkl : k < l.length := by rw [HN.out]; exact hlt
      obtain ⟨b, off, rfl, hb, hc⟩ := (hr.below hB).at_ (by simp; omega)
      have hcell := hc k (by simp; omega)
      rw [cl_get _ _ _ hkl] at hcell
      have hol := scs_len (l.take k)
      rw [List.length_take, HN.out] at hol
      have HT := Lib.hid (List.take_succ_eq_append_getElem hkl)
      have HC := Lib.hid hc
      have HR := Lib.hid hr
      clear hc hr
      obtain ⟨x, hx⟩ : ∃ x, l[k] = x := ⟨_, rfl⟩
      rw [hx] at hcell HT
      have HX := Lib.hid hx
      clear hx
      obtain ⟨m, hm'⟩ : ∃ m, scs (l.take k) = m := ⟨_, rfl⟩
      rw [hm'] at hown hol
      have HM := Lib.hid hm'
      clear hm'
      cases hsc : isSca x with
      | true =>
        obtain ⟨h0, h1⟩ := isSca_nonneg hsc
        have HY : scs (l.take (k + 1)) = m ++ [x.toNat] := by rw [HT.out, scs_yes hsc, HM.out]
        have HYY := Lib.hid HY
        clear HY
        have hnat : ((x.toNat : Nat) : Int) = x := Int.toNat_of_nonneg h0
        have HNN := Lib.hid hnat
        clear hnat
        have d0 : decide (x ≥ 0) = true := decide_eq_true h0
        have d1 : decide (x ≤ 1114111) = true := decide_eq_true h1
        have hor : (x < 55296) ∨ (¬ x < 55296 ∧ 57343 < x) := by unfold isSca at hsc; simp at hsc; omega
        rcases hor with h2 | ⟨h2, h3⟩
        all_goals
          go_wp2_with (first
            | (at_builtin; refine wpList_append_own_at _ rfl _ _ 22 rfl w.heap.size 21 i0 (.int .i32 0) 1 4 Try.underlying22 hi hz0 hz1 hz2 rfl (by decide) _ _ _ rfl (hown.alloc _) ⟨wr.heap.size, 0, none⟩ 1 1 _ rfl (by rfl) (news_new _ _ _ _ rfl) (by simp [Value.oneCell']) (by unfold maxLen; omega) (by omega) (by simp; omega) ?_; intro v' w2 hown2 hgrow2 _ _)
            | fail)
          go_roundw
          case rel =>
            refine ⟨k + 1, by omega, by go_num, ?_, (hB.alloc hsz _).grown hgrow2 (by simp; omega) (fun j e => (hown.lt j e).1)⟩
            rw [HYY.out, List.length_append]
            simpa [HNN.out] using hown2
          case measure => simp [intOf]; omega
      | false =>
        have HY : scs (l.take (k + 1)) = m := by rw [HT.out, scs_no hsc, HM.out]
        have HYY := Lib.hid HY
        clear HY
        have hor : (¬ 0 ≤ x) ∨ (0 ≤ x ∧ ¬ x ≤ 1114111) ∨ (0 ≤ x ∧ x ≤ 1114111 ∧ ¬ x < 55296 ∧ ¬ 57343 < x) := by unfold isSca at hsc; simp at hsc; omega
        rcases hor with h0 | ⟨h0, h1⟩ | ⟨h0, h1, h2, h3⟩
        all_goals
          go_wp2
          go_roundw
          case rel => exact ⟨k + 1, by omega, by go_num, by rw [HYY.out]; exact hown, hB⟩
          case measure => simp [intOf]; omega
    · obtain rfl : k = n := by omega
      have ht : l.take k = l := by rw [← HN.out, List.take_length]
      rw [ht] at hown
      go_wp2
      go_ret
      exact ⟨_, rfl, hown, hB⟩
end Go.Proofs.Ytcdjjodiiaahfaa
