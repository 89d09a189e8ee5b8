/-
  remap: One; label.Code.
-/
import Derived.Test.YtenfdnnagijfnaaGreatDoorRemapB
namespace Remap
/-- what is mapped to others -/
def mp (r : Int) : Option (List Int) := if r = 8230 then some [46, 46, 46] else (shL.find? (inS r)).map fun s => [r - s.1 + s.2.2]
def vl (r : Int) : Bool := !(decide (Ucd.g (Ucd.of r) 0 = 0)) && !(baL.any (inP r))
def one (r : Int) : List Int × Int := match mp r with
  | some l => (l, 1)
  | none => if igL.any (inP r) then ([], 2) else if vl r then ([r], 0) else ([], 3)
/-- may it be in a label? -/
def vd (r : Int) : Bool := decide ((one r).2 = 0)
end Remap
namespace Go.Proofs.YtenfdnnagijfnaaGreatDoor
open Go.RowKit Norm Remap

def MpV (w : World) (o : Option (List Int)) (e : Ending) (w' : World) : Prop :=
  ∃ A c, e = .returned (.tuple #[.slice A (o.getD []).length c, .bool o.isSome]) ∧ w'.ownsRow w.heap.size 21 1 (.slice A (o.getD []).length c) (o.getD []).length (cl .i32 (o.getD [])) ∧ Below w.heap.size w w'
theorem sh_bd : shL.all (fun s => decide (0 ≤ s.1 ∧ s.2.1 ≤ 70000 ∧ 0 ≤ s.2.2 ∧ s.2.2 ≤ 70000)) = true := by decide +kernel
theorem own_new (w : World) (base : Nat) (cs : Array Value) (h : base ≤ w.heap.size) (hs : cs.size ≤ 10) : (w.alloc (.cells cs 21)).ownsRow base 21 1 (.slice (some ⟨w.heap.size, 0, none⟩) cs.size cs.size) cs.size cs.toList :=
  ⟨by simp, .inr ⟨w.heap.size, cs.size, cs, rfl, h, heap_alloc_new w _, Nat.le_refl _, by unfold maxLen; omega, by simp, by simp [List.take_of_length_le]⟩⟩
theorem own_nil0 (w : World) (base : Nat) : w.ownsRow base 21 1 (.slice none 0 0) 0 [] := ⟨rfl, .inl ⟨rfl, rfl⟩⟩
theorem shifts_at (w : World) : ∀ i, i < 21 → (w.alloc (.cells (cS shL).toArray 114)).cell? ⟨w.heap.size, i * 3, none⟩ = some (.int .i32 shL[i]!.1) ∧ (w.alloc (.cells (cS shL).toArray 114)).cell? ⟨w.heap.size, i * 3 + 1, none⟩ = some (.int .i32 shL[i]!.2.1) ∧ (w.alloc (.cells (cS shL).toArray 114)).cell? ⟨w.heap.size, i * 3 + 2, none⟩ = some (.int .i32 shL[i]!.2.2) := fun i hi => by
  obtain ⟨a, b, c⟩ := cS_get shL i hi
  exact ⟨(tab_cell _ _ _ _).trans a, (tab_cell _ _ _ _).trans b, (tab_cell _ _ _ _).trans c⟩
theorem spans_at (w : World) (l : List (Int × Int)) (n : Nat) (hn : l.length = n) : ∀ i, i < n → (w.alloc (.cells (cP l).toArray 91)).cell? ⟨w.heap.size, i * 2, none⟩ = some (.int .i32 l[i]!.1) ∧ (w.alloc (.cells (cP l).toArray 91)).cell? ⟨w.heap.size, i * 2 + 1, none⟩ = some (.int .i32 l[i]!.2) := fun i hi => by
  obtain ⟨a, b⟩ := cP_get l i (by omega)
  exact ⟨(tab_cell _ _ _ _).trans a, (tab_cell _ _ _ _).trans b⟩
set_option maxRecDepth 100000 in
set_option maxHeartbeats 1000000 in
theorem mapped_any (r : Int) (w : World) : Calls Tryz.prog 68 #[.int .i32 r] w (MpV w (mp r)) := by
  by_cases h : r = 8230
  · have e : mp r = some [46, 46, 46] := by unfold mp; rw [if_pos h]
    rw [e]
    go_enter Tryz.func68, Tryz.ntmps68
    go_wp2
    go_ret2
    exact ⟨_, 3, rfl, own_new w w.heap.size #[.int .i32 46, .int .i32 46, .int .i32 46] (Nat.le_refl _) (by simp), upA w _⟩
  · cases hf : shL.find? (inS r) with
    | none =>
      have e : mp r = none := by unfold mp; rw [if_neg h, hf]; rfl
      rw [e]
      have HT := Lib.hid (fun w => shifts_any w)
      have HW := Lib.hid (fun w => whichS_any shL w.heap.size 21 r (w.alloc (.cells (cS shL).toArray 114)) rfl (by omega) (by simp) (shifts_at w))
      rw [hf] at HW
      clear hf e
      go_enter Tryz.func68, Tryz.ntmps68
      go_wp2_with (first
        | (go_at_call 98; refine (HT.out _).mono ?_; rintro e w1 ⟨rfl, rfl⟩)
        | (go_at_call 97; refine (HW.out _).mono ?_; rintro e w2 ⟨rfl, hB2⟩)
        | fail)
      go_ret2
      have hB := below_past _ hB2
      exact ⟨none, 0, rfl, own_nil0 _ _, hB.alloc hB.size _⟩
    | some s =>
      have e : mp r = some [r - s.1 + s.2.2] := by unfold mp; rw [if_neg h, hf]; rfl
      rw [e]
      have HT := Lib.hid (fun w => shifts_any w)
      have HW := Lib.hid (fun w => whichS_any shL w.heap.size 21 r (w.alloc (.cells (cS shL).toArray 114)) rfl (by omega) (by simp) (shifts_at w))
      rw [hf] at HW
      have hs1 : inS r s = true := List.find?_some hf
      have hs2 := List.all_eq_true.1 sh_bd s (List.mem_of_find?_eq_some hf)
      unfold inS at hs1
      have hs1 := of_decide_eq_true hs1
      have hs2 := of_decide_eq_true hs2
      obtain ⟨x, y, z⟩ := s
      dsimp only at hs1 hs2 ⊢
      have HM := Lib.hid (fun w => shiftMove_any x y z r w (by omega) (by omega) (by omega) (by omega) (by omega))
      clear hf e hs1 hs2
      obtain ⟨v, hv⟩ : ∃ v, r - x + z = v := ⟨_, rfl⟩
      rw [hv] at HM ⊢
      clear hv
      go_enter Tryz.func68, Tryz.ntmps68
      go_upto_region 5 with (first
        | (go_at_call 98; refine (HT.out _).mono ?_; rintro e w1 ⟨rfl, rfl⟩)
        | (go_at_call 97; refine (HW.out _).mono ?_; rintro e w2 ⟨rfl, hB2⟩)
        | fail)
      have hB := below_past _ hB2
      have hX := alloc_heap_new' w2 (.cells #[.int .i32 x, .int .i32 y, .int .i32 z] 114)
      have hB1 := hB.alloc hB.size (.cells #[.int .i32 x, .int .i32 y, .int .i32 z] 114)
      generalize w2.alloc (.cells #[.int .i32 x, .int .i32 y, .int .i32 z] 114) = w3 at hX hB1 ⊢
      generalize w2.heap.size = X at hX ⊢
      obtain ⟨x0, x1, x2, _⟩ := Z3.cells hX
      clear hB hB2 hX
      go_wp2_with (first
        | (go_at_call 100; refine (HM.out _).mono ?_; rintro e w4 ⟨rfl, hB4⟩)
        | fail)
      go_ret2
      have hB5 := hB1.trans (hB4.mono hB1.size)
      exact ⟨_, 1, rfl, own_new w4 w.heap.size #[.int .i32 v] hB5.size (by simp), hB5.alloc hB5.size _⟩
set_option maxRecDepth 100000 in
set_option maxHeartbeats 1000000 in
theorem valid_any (r : Int) (w : World) : Calls Tryz.prog 72 #[.int .i32 r] w (Tells (.bool (vl r)) w) := by
  have HO := Lib.hid (fun w => Of_any r w)
  have HT := Lib.hid (fun w => barred_any w)
  have HW := Lib.hid (fun w => whichP_any baL w.heap.size 7 r (w.alloc (.cells (cP baL).toArray 91)) rfl (by omega) (by simp) (spans_at w baL 7 rfl))
  obtain ⟨q, hq⟩ : ∃ q, baL.any (inP r) = q := ⟨_, rfl⟩
  rw [hq] at HW
  have HRC : ∀ (p : List Int) w, (Instr.field 32 (pv p) 0).run Tryz.prog w = .ok (.int .u8 (Ucd.g p 0)) w := fun p w => by kernel_rfl
  unfold vl
  rw [hq]
  have HR := HRC (Ucd.of r)
  generalize Ucd.of r = p at HO HR ⊢
  obtain ⟨y, hy⟩ : ∃ y, Ucd.g p 0 = y := ⟨_, rfl⟩
  rw [hy] at HR ⊢
  clear hq hy HRC
  by_cases h0 : y = 0
  · subst h0
    go_enter Tryz.func72, Tryz.ntmps72
    go_wp2_with (first
      | (go_at_call 24; refine (HO.out _).mono ?_; rintro e w1 ⟨rfl, hB1⟩)
      | fail)
    go_ret
    exact ⟨by first | rfl | simp, hB1⟩
  · go_enter Tryz.func72, Tryz.ntmps72
    go_wp2_with (first
      | (go_at_call 24; refine (HO.out _).mono ?_; rintro e w1 ⟨rfl, hB1⟩)
      | (go_at_call 101; refine (HT.out _).mono ?_; rintro e w2 ⟨rfl, rfl⟩)
      | (go_at_call 69; refine (HW.out _).mono ?_; rintro e w3 ⟨⟨x1, x2, rfl⟩, hB3⟩)
      | fail)
    go_ret
    have hB := hB1.trans ((below_past _ hB3).mono hB1.size)
    exact ⟨by first | rfl | simp [h0], hB.alloc hB.size _⟩
def OneV (w : World) (o : List Int × Int) (e : Ending) (w' : World) : Prop :=
  ∃ A c, e = .returned (.tuple #[.slice A o.1.length c, .int .u8 o.2]) ∧ w'.ownsRow w.heap.size 21 1 (.slice A o.1.length c) o.1.length (cl .i32 o.1) ∧ Below w.heap.size w w'
set_option maxRecDepth 100000 in
set_option maxHeartbeats 1000000 in
theorem One_any (r : Int) (w : World) : Calls Tryz.prog 49 #[.int .i32 r] w (OneV w (one r)) := by
  have HM := Lib.hid (fun w => mapped_any r w)
  have HT := Lib.hid (fun w => ignored_any w)
  have HW := Lib.hid (fun w => whichP_any igL w.heap.size 4 r (w.alloc (.cells (cP igL).toArray 91)) rfl (by omega) (by simp) (spans_at w igL 4 rfl))
  have HV := Lib.hid (fun w => valid_any r w)
  unfold one
  obtain ⟨o, ho⟩ : ∃ o, mp r = o := ⟨_, rfl⟩
  rw [ho] at HM ⊢
  clear ho
  cases o with
  | some l =>
    clear HT HW HV
    dsimp only
    go_enter Tryz.func49, Tryz.ntmps49
    go_wp2_with (first
      | (go_at_call 68; refine (HM.out _).mono ?_; rintro e w1 ⟨A, c, rfl, hO1, hB1⟩)
      | fail)
    go_ret2
    exact ⟨A, c, rfl, hO1, hB1⟩
  | none =>
    dsimp only
    obtain ⟨q, hq⟩ : ∃ q, igL.any (inP r) = q := ⟨_, rfl⟩
    obtain ⟨v, hv⟩ : ∃ v, vl r = v := ⟨_, rfl⟩
    rw [hq] at HW ⊢
    rw [hv] at HV ⊢
    clear hq hv
    cases q with
    | true =>
      go_enter Tryz.func49, Tryz.ntmps49
      go_wp2_with (first
        | (go_at_call 68; refine (HM.out _).mono ?_; rintro e w1 ⟨A, c, rfl, hO1, hB1⟩)
        | (go_at_call 70; refine (HT.out _).mono ?_; rintro e w2 ⟨rfl, rfl⟩)
        | (go_at_call 69; refine (HW.out _).mono ?_; rintro e w3 ⟨⟨x1, x2, rfl⟩, hB3⟩)
        | fail)
      go_ret2
      have hB := hB1.trans ((below_past _ hB3).mono hB1.size)
      exact ⟨none, 0, rfl, own_nil0 _ _, hB.alloc hB.size _⟩
    | false =>
      cases v with
      | true =>
        go_enter Tryz.func49, Tryz.ntmps49
        go_wp2_with (first
          | (go_at_call 68; refine (HM.out _).mono ?_; rintro e w1 ⟨A, c, rfl, hO1, hB1⟩)
          | (go_at_call 70; refine (HT.out _).mono ?_; rintro e w2 ⟨rfl, rfl⟩)
          | (go_at_call 69; refine (HW.out _).mono ?_; rintro e w3 ⟨⟨x1, x2, rfl⟩, hB3⟩)
          | (go_at_call 72; refine (HV.out _).mono ?_; rintro e w4 ⟨rfl, hB4⟩)
          | fail)
        go_ret2
        have hB := hB1.trans ((below_past _ hB3).mono hB1.size)
        have hB5 := hB.trans ((below_past _ hB4).mono hB.size)
        exact ⟨_, 1, rfl, own_new w4 w.heap.size #[.int .i32 r] hB5.size (by simp), hB5.alloc hB5.size _⟩
      | false =>
        go_enter Tryz.func49, Tryz.ntmps49
        go_wp2_with (first
          | (go_at_call 68; refine (HM.out _).mono ?_; rintro e w1 ⟨A, c, rfl, hO1, hB1⟩)
          | (go_at_call 70; refine (HT.out _).mono ?_; rintro e w2 ⟨rfl, rfl⟩)
          | (go_at_call 69; refine (HW.out _).mono ?_; rintro e w3 ⟨⟨x1, x2, rfl⟩, hB3⟩)
          | (go_at_call 72; refine (HV.out _).mono ?_; rintro e w4 ⟨rfl, hB4⟩)
          | fail)
        go_ret2
        have hB := hB1.trans ((below_past _ hB3).mono hB1.size)
        have hB5 := hB.trans ((below_past _ hB4).mono hB.size)
        exact ⟨none, 0, rfl, own_nil0 _ _, hB5⟩
set_option maxRecDepth 100000 in
set_option maxHeartbeats 1000000 in
theorem Code_any (r : Int) (w : World) : Calls Tryz.prog 25 #[.int .i32 r] w (Tells (.bool (vd r)) w) := by
  have HM := Lib.hid (fun w => One_any r w)
  unfold vd
  generalize one r = p at HM ⊢
  obtain ⟨l, y⟩ := p
  dsimp only
  by_cases h : y = 0
  · subst h
    go_enter Tryz.func25, Tryz.ntmps25
    go_wp2_with (first | (go_at_call 49; refine (HM.out _).mono ?_; rintro e w1 ⟨A, c, rfl, hO1, hB1⟩) | fail)
    go_ret
    exact ⟨by first | rfl | simp, hB1⟩
  · go_enter Tryz.func25, Tryz.ntmps25
    go_wp2_with (first | (go_at_call 49; refine (HM.out _).mono ?_; rintro e w1 ⟨A, c, rfl, hO1, hB1⟩) | fail)
    go_ret
    exact ⟨by first | rfl | simp [h], hB1⟩
end Go.Proofs.YtenfdnnagijfnaaGreatDoor
