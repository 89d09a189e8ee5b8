/-
  The contracts of what the statements of layer 1 use to compare: fascialow.Runes, fascialow.Same, fascialaw01.same.
-/
import Derived.Test.YteggchjehfkppaaUtfF
import Derived.Lib.Strings
namespace Go.Proofs.Yteggchjehfkppaa
open Go.RowKit Utf

theorem conv_row {w : World} {B : Nat} {A : Option Addr} {xs : List Int} {n c : Nat} (hn : xs.length = n) (hr : Row w B A (cl .u8 xs)) :
    (convert 22 9 (.slice A n c)).run Try.prog w = .ok (.string (strOfNums xs)) w := by
  subst hn
  cases xs with
  | nil =>
    cases A with
    | none => exact run_convert_bytes_nil w 22 5 Try.underlying22 Try.underlying5 0 c 9 Try.underlying9
    | some a =>
      rw [run_convert_bytes_string w 22 9 5 _ _ c Try.underlying22 Try.underlying5 Try.underlying9]
      exact run_bytesToString w a 0 c [] (by simp [loadCells, loadCellsFrom])
  | cons x t =>
    obtain ⟨b, o, rfl, _, hc⟩ := hr.at_ (by simp)
    refine run_convert_bytes_arg w 22 5 Try.underlying22 Try.underlying5 b o _ c (x :: t) rfl (fun i hi => ?_) 9 Try.underlying9
    rw [hc i (by simpa using hi), cl_get _ _ _ hi]
    simp [List.getD, List.getElem?_eq_getElem hi]

theorem strOf_inj {a b : List Int} (ha : Byt a) (hb : Byt b) (h : strOfNums a = strOfNums b) : a = b := by
  have h1 : (strOfNums a).data.toList = (strOfNums b).data.toList := by rw [h]
  rw [strOfNums_data, strOfNums_data] at h1
  clear h
  induction a generalizing b with
  | nil => cases b with
    | nil => rfl
    | cons y t => simp at h1
  | cons x s ih => cases b with
    | nil => simp at h1
    | cons y t =>
      simp only [List.map_cons, List.cons.injEq] at h1
      have hx := ha x (by simp)
      have hy := hb y (by simp)
      have e : (UInt8.ofNat x.toNat).toNat = (UInt8.ofNat y.toNat).toNat := by rw [h1.1]
      simp at e
      have : x = y := by omega
      subst this
      rw [ih (fun z hz => ha z (by simp [hz])) (fun z hz => hb z (by simp [hz])) h1.2]

set_option maxHeartbeats 1000000 in
theorem Same_any (a b : List Int) (A B : Option Addr) (n m c d : Nat) (w : World) (hn : a.length = n) (hm : b.length = m) (ha : Byt a) (hb : Byt b) (hra : Row w w.heap.size A (cl .u8 a)) (hrb : Row w w.heap.size B (cl .u8 b)) :
    Calls Try.prog 18 #[.slice A n c, .slice B m d] w (IsBool (decide (a = b)) w) := by
  have h1 := conv_row (c := c) hn hra
  have h2 := conv_row (c := d) hm hrb
  have HI := Lib.hid (fun h => strOf_inj ha hb h)
  clear hn hm ha hb hra hrb
  go_enter Try.func18, Try.ntmps18
  go_wp2
  go_ret
  refine ⟨ret_bool ?_, Below.refl _ _⟩
  rw [Lib.toList_data, Lib.toList_data]
  by_cases e : a = b
  · subst e
    simp
  · rw [decide_eq_false e, beq_eq_false_iff_ne]
    exact fun h => e (HI.out (by cases ha : strOfNums a; cases hb : strOfNums b; rw [ha, hb] at h; simp only [ByteArray.mk.injEq]; exact Array.toList_inj.1 h))

theorem IsBool.drewN {b : Bool} {w : World} {e : Ending} (he : e = .returned (.bool b)) (q : Nat) : IsBool b w e (w.drewN q) := ⟨he, ⟨rfl, rfl, rfl, Nat.le_refl _, fun _ _ => rfl⟩⟩

theorem IsBool.drewN2 {b : Bool} {w : World} {e : Ending} (he : e = .returned (.bool b)) (q q' : Nat) : IsBool b w e ((w.drewN q).drewN q') := ⟨he, ⟨rfl, rfl, rfl, Nat.le_refl _, fun _ _ => rfl⟩⟩

theorem all_eq {α : Type} {a b : List α} {n : Nat} (ha : a.length = n) (hb : b.length = n) (h : ∀ j, j < n → a[j]? = b[j]?) : a = b := by
  refine List.ext_getElem? fun j => ?_
  by_cases hj : j < n
  · exact h j hj
  · rw [List.getElem?_eq_none (by omega), List.getElem?_eq_none (by omega)]

set_option maxHeartbeats 1000000 in
theorem Runes_any (a b : List Int) (A B : Option Addr) (n m c d : Nat) (w : World) (hn : a.length = n) (hm : b.length = m) (hn1 : n ≤ 1000000) (hm1 : m ≤ 1000000) (hra : Row w w.heap.size A (cl .i32 a)) (hrb : Row w w.heap.size B (cl .i32 b)) :
    Calls Try.prog 15 #[.slice A n c, .slice B m d] w (IsBool (decide (a = b)) w) := by
  by_cases hnm : n = m
  · have HN := Lib.hid hn
    subst hnm
    have HM := Lib.hid hm
    clear hn hm
    go_enter Try.func15, Try.ntmps15
    go_wp2
    go_loopw [13] (fun i wr => ∃ k : Nat, k ≤ n ∧ i = .int .i64 k ∧ (∀ j, j < k → a[j]? = b[j]?) ∧ ∃ q, wr = w.drewN q) (fun i _ => n - (intOf i).toNat)
    case atStart => exact ⟨0, by omega, rfl, by omega, 0, rfl⟩
    case round =>
      obtain ⟨k, hk, rfl, hall, q, rfl⟩ := hrel
      have HA := Lib.hid hall
      clear hall
      by_cases hlt : k < n
      · have hka : k < a.length := by rw [HN.out]; exact hlt
        have hkb : k < b.length := by rw [HM.out]; exact hlt
        obtain ⟨b1, o1, rfl, hb1, hc1⟩ := hra.at_ (by simp; omega)
        obtain ⟨b2, o2, rfl, hb2, hc2⟩ := hrb.at_ (by simp; omega)
        have g1 := hc1 k (by simp; omega)
        have g2 := hc2 k (by simp; omega)
        rw [cl_get _ _ _ hka] at g1
        rw [cl_get _ _ _ hkb] at g2
        obtain ⟨x, hx⟩ : ∃ x, a[k] = x := ⟨_, rfl⟩
        obtain ⟨y, hy⟩ : ∃ y, b[k] = y := ⟨_, rfl⟩
        rw [hx] at g1
        rw [hy] at g2
        have HX := Lib.hid hx
        have HY := Lib.hid hy
        clear hx hy hc1 hc2 hra hrb
        by_cases hxy : x = y
        · subst hxy
          go_wp2
          go_quiet (fail)
          go_wp2
          go_roundw
          case rel =>
            refine ⟨k + 1, by omega, by go_num, fun j hj => ?_, _, rfl⟩
            by_cases hjk : j < k
            · exact HA.out j hjk
            · obtain rfl : j = k := by omega
              rw [List.getElem?_eq_getElem hka, List.getElem?_eq_getElem hkb, HX.out, HY.out]
          case measure => simp [intOf]; omega
        · have hne : (x != y) = true := by simpa using hxy
          go_wp2
          go_quiet (fail)
          go_wp2
          go_ret
          refine IsBool.drewN2 (ret_bool ?_) _ _
          rw [decide_eq_false (fun e => hxy (by rw [← HX.out, ← HY.out]; simp [e]))]
      · obtain rfl : k = n := by omega
        go_wp2
        go_ret
        exact IsBool.drewN (ret_bool (decide_eq_true (all_eq HN.out HM.out HA.out)).symm) _
  · have hne : ((n : Int) != (m : Int)) = true := by simp; omega
    go_enter Try.func15, Try.ntmps15
    go_wp2
    go_ret
    refine ⟨ret_bool ?_, Below.refl _ _⟩
    have : a ≠ b := fun e => hnm (by rw [← hn, ← hm, e])
    simp [this]

abbrev T3 := Int × Int × Int
def c3 (l : List T3) : List Value := l.flatMap fun x => [.int .i32 x.1, .int .i64 x.2.1, .int .i64 x.2.2]
def tri (x : Cd) : T3 := (x.1, (x.2.1 : Int), (x.2.2.1 : Int))
theorem cdc_c3 (l : List Cd) : cdc l = c3 (l.map tri) := by simp [cdc, c3, tri, List.flatMap_map]
theorem c3_len (l : List T3) : (c3 l).length = l.length * 3 := by
  induction l with
  | nil => rfl
  | cons x l ih => simp [c3] at ih ⊢; omega
theorem c3_get : ∀ (l : List T3) (k : Nat) (h : k < l.length), (c3 l)[k * 3]? = some (.int .i32 l[k].1) ∧ (c3 l)[k * 3 + 1]? = some (.int .i64 l[k].2.1) ∧ (c3 l)[k * 3 + 2]? = some (.int .i64 l[k].2.2)
  | x :: l, 0, _ => by simp [c3]
  | x :: l, k + 1, h => by
    have ih := c3_get l k (by simpa using h)
    have e : c3 (x :: l) = [.int .i32 x.1, .int .i64 x.2.1, .int .i64 x.2.2] ++ c3 l := by simp [c3]
    rw [e, List.getElem?_append_right (by simp; omega), List.getElem?_append_right (by simp; omega), List.getElem?_append_right (by simp; omega)]
    simp only [List.length_cons, List.length_nil, List.getElem_cons_succ]
    rw [show (k + 1) * 3 - (0 + 1 + 1 + 1) = k * 3 from by omega, show (k + 1) * 3 + 1 - (0 + 1 + 1 + 1) = k * 3 + 1 from by omega, show (k + 1) * 3 + 2 - (0 + 1 + 1 + 1) = k * 3 + 2 from by omega]
    exact ih

set_option maxHeartbeats 1000000 in
theorem same_any (a b : List T3) (A B : Option Addr) (n m c d : Nat) (w : World) (hn : a.length = n) (hm : b.length = m) (hn1 : n ≤ 1000000) (hm1 : m ≤ 1000000) (hra : Row w w.heap.size A (c3 a)) (hrb : Row w w.heap.size B (c3 b)) :
    Calls Try.prog 12 #[.slice A n c, .slice B m d] w (IsBool (decide (a = b)) w) := by
  by_cases hnm : n = m
  · have HN := Lib.hid hn
    subst hnm
    have HM := Lib.hid hm
    clear hn hm
    go_enter Try.func12, Try.ntmps12
    go_wp2
    go_loopw [13] (fun i wr => ∃ k : Nat, k ≤ n ∧ i = .int .i64 k ∧ (∀ j, j < k → a[j]? = b[j]?) ∧ ∃ q, wr = w.drewN q) (fun i _ => n - (intOf i).toNat)
    case atStart => exact ⟨0, by omega, rfl, by omega, 0, rfl⟩
    case round =>
      obtain ⟨k, hk, rfl, hall, q, rfl⟩ := hrel
      have HA := Lib.hid hall
      clear hall
      by_cases hlt : k < n
      · have hka : k < a.length := by rw [HN.out]; exact hlt
        have hkb : k < b.length := by rw [HM.out]; exact hlt
        obtain ⟨b1, o1, rfl, hb1, hc1⟩ := hra.at_ (by rw [c3_len]; omega)
        obtain ⟨b2, o2, rfl, hb2, hc2⟩ := hrb.at_ (by rw [c3_len]; omega)
        obtain ⟨p0, p1, p2⟩ := c3_get a k hka
        obtain ⟨q0, q1, q2⟩ := c3_get b k hkb
        have g0 := (hc1 (k * 3) (by rw [c3_len]; omega)).trans p0
        have g1 := (hc1 (k * 3 + 1) (by rw [c3_len]; omega)).trans p1
        have g2 := (hc1 (k * 3 + 2) (by rw [c3_len]; omega)).trans p2
        have g3 := (hc2 (k * 3) (by rw [c3_len]; omega)).trans q0
        have g4 := (hc2 (k * 3 + 1) (by rw [c3_len]; omega)).trans q1
        have g5 := (hc2 (k * 3 + 2) (by rw [c3_len]; omega)).trans q2
        clear p0 p1 p2 q0 q1 q2
        obtain ⟨⟨x0, x1, x2⟩, hx⟩ : ∃ x, a[k] = x := ⟨_, rfl⟩
        obtain ⟨⟨y0, y1, y2⟩, hy⟩ : ∃ y, b[k] = y := ⟨_, rfl⟩
        rw [hx] at g0 g1 g2
        rw [hy] at g3 g4 g5
        have HX := Lib.hid hx
        have HY := Lib.hid hy
        clear hx hy hc1 hc2 hra hrb
        simp only [← Nat.add_assoc] at g1 g2 g4 g5
        dsimp only at g0 g1 g2 g3 g4 g5
        by_cases h0 : x0 = y0
        · subst h0
          by_cases h1 : x1 = y1
          · subst h1
            by_cases h2 : x2 = y2
            · subst h2
              go_wp2
              go_quiet (fail)
              go_wp2
              go_roundw
              case rel =>
                refine ⟨k + 1, by omega, by go_num, fun j hj => ?_, _, rfl⟩
                by_cases hjk : j < k
                · exact HA.out j hjk
                · obtain rfl : j = k := by omega
                  rw [List.getElem?_eq_getElem hka, List.getElem?_eq_getElem hkb, HX.out, HY.out]
              case measure => simp [intOf]; omega
            · have hne : (x2 == y2) = false := by simpa using h2
              go_wp2
              go_quiet (fail)
              go_wp2
              go_ret
              refine IsBool.drewN2 (ret_bool ?_) _ _
              rw [decide_eq_false (fun e => h2 (by have e2 := HX.out.symm.trans ((List.getElem_of_eq e hka).trans HY.out); simp only [Prod.mk.injEq] at e2; exact e2.2.2))]
          · have hne : (x1 == y1) = false := by simpa using h1
            go_wp2
            go_quiet (fail)
            go_wp2
            go_ret
            refine IsBool.drewN2 (ret_bool ?_) _ _
            rw [decide_eq_false (fun e => h1 (by have e2 := HX.out.symm.trans ((List.getElem_of_eq e hka).trans HY.out); simp only [Prod.mk.injEq] at e2; exact e2.2.1))]
        · have hne : (x0 == y0) = false := by simpa using h0
          go_wp2
          go_quiet (fail)
          go_wp2
          go_ret
          refine IsBool.drewN2 (ret_bool ?_) _ _
          rw [decide_eq_false (fun e => h0 (by have e2 := HX.out.symm.trans ((List.getElem_of_eq e hka).trans HY.out); simp only [Prod.mk.injEq] at e2; exact e2.1))]
      · obtain rfl : k = n := by omega
        go_wp2
        go_ret
        exact IsBool.drewN (ret_bool (decide_eq_true (all_eq HN.out HM.out HA.out)).symm) _
  · have hne : ((n : Int) != (m : Int)) = true := by simp; omega
    go_enter Try.func12, Try.ntmps12
    go_wp2
    go_ret
    refine ⟨ret_bool ?_, Below.refl _ _⟩
    have : a ≠ b := fun e => hnm (by rw [← hn, ← hm, e])
    simp [this]

end Go.Proofs.Yteggchjehfkppaa
