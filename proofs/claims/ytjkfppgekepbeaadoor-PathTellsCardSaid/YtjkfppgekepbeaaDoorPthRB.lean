/-
  fasciaref16: Drive, Begins, Plain, Shorten; path.Begins.
-/
import Derived.Test.YtjkfppgekepbeaaDoorPthRA
import Derived.Test.YtjkfppgekepbeaaDoorPthO
import Derived.Test.YtjkfppgekepbeaaDoorPthI
namespace Go.Proofs.YtjkfppgekepbeaaDoor.Pth
set_option maxRecDepth 100000
open Go.RowKit Go.Shelf Utf Ut Hst

theorem sl_h22 (A : Option Addr) (n c k : Nat) (hk : k ≤ c) (W : World) : (Instr.sliceAt 22 (.slice A n c) none (some (.int .i64 (k : Int))) none).run Tryd.prog W = .ok (.slice A k c) W := by
  rw [run_sliceAt_slice W 22 _ _ _ _ under22, run_slice_h W 22 _ n c under22 .i64 (k : Int) (by omega) (by omega), elem22, size22]
  cases A <;> simp [Result.andThen, sliced, Addr.add]
theorem underSt : Tryd.prog.underlying 23 = some (.slice (Tryd.prog.elem 23)) := by simp [Program.elem, Tryd.underlying23]
theorem elemSt : Tryd.prog.elem 23 = 9 := by simp [Program.elem, Tryd.underlying23]
theorem sizeSt (W : World) : (sizeOf 9).run Tryd.prog W = .ok 1 W := by kernel_rfl
theorem sl_hSt (A : Option Addr) (n c k : Nat) (hk : k ≤ c) (W : World) : (Instr.sliceAt 23 (.slice A n c) none (some (.int .i64 (k : Int))) none).run Tryd.prog W = .ok (.slice A k c) W := by
  rw [run_sliceAt_slice W 23 _ _ _ _ underSt, run_slice_h W 23 _ n c underSt .i64 (k : Int) (by omega) (by omega), elemSt, sizeSt]
  cases A <;> simp [Result.andThen, sliced, Addr.add]
/-- does one begin with a drive -/
def aft : List Int → Bool
  | [] => true
  | r :: _ => r == 47 || r == 92 || r == 63 || r == 35
def bgn (l : List Int) : Bool := drv (l.take 2) && aft (l.drop 2)
theorem row_takeI {w : World} {B : Nat} {A : Option Addr} {l : List Int} (h : Row w B A (cl .i32 l)) (k : Nat) : Row w B A (cl .i32 (l.take k)) := by
  rcases h with h | ⟨b, o, hA, hb, hc⟩
  · have : l = [] := by simpa [cl] using h
    subst this
    exact .inl (by simp)
  · refine .inr ⟨b, o, hA, hb, fun i hi => ?_⟩
    simp only [cl, List.length_map, List.length_take] at hi
    have h2 : i < l.length := by omega
    rw [hc i (by simp [cl]; exact h2)]
    simp only [cl, List.getElem?_map]
    rw [List.getElem?_take_of_lt (by omega)]
set_option maxHeartbeats 2000000 in
theorem RDrive_any (l : List Int) (A : Option Addr) (n c : Nat) (w : World) (hn : l.length = n) (hr : Row w w.heap.size A (cl .i32 l)) : Calls Tryd.prog 15 #[.slice A n c] w (fun e w' => e = .returned (.bool (drv l)) ∧ w = w') := by
  obtain ⟨q, hq⟩ : ∃ q, drv l = q := ⟨_, rfl⟩
  rw [hq]
  by_cases h2 : n = 2
  · subst h2
    match l, hn with
    | [a, b], _ =>
      obtain ⟨g, o, rfl, hb, hc⟩ := hr.at_ (by simp)
      have c0 : w.cell? ⟨g, o, none⟩ = some (.int .i32 a) := hc 0 (by simp)
      have c1 : w.cell? ⟨g, o + 1, none⟩ = some (.int .i32 b) := hc 1 (by simp)
      have hdr : drv [a, b] = (ltr a && (b == 58 || b == 124)) := rfl
      rw [hdr] at hq
      clear hc hr hn hdr
      have yes : (65 ≤ a ∧ a ≤ 90) ∨ (97 ≤ a ∧ a ≤ 122) → ltr a = true := fun h => by
        unfold ltr
        rw [Bool.or_eq_true, decide_eq_true_eq, decide_eq_true_eq]
        exact h
      have no : ¬ ((65 ≤ a ∧ a ≤ 90) ∨ (97 ≤ a ∧ a ≤ 122)) → ltr a = false := fun h => by
        rw [Bool.eq_false_iff]
        intro h'
        unfold ltr at h'
        rw [Bool.or_eq_true, decide_eq_true_eq, decide_eq_true_eq] at h'
        exact h h'
      by_cases hbb : b = 58 ∨ b = 124
      · have hq2 : q = ltr a := by
          rw [← hq]
          rcases hbb with h | h <;> rw [h] <;> simp
        rcases (show (65 ≤ a ∧ a ≤ 90) ∨ (97 ≤ a ∧ a ≤ 122) ∨ a < 65 ∨ (90 < a ∧ a < 97) ∨ 122 < a by omega) with ⟨k1, k2⟩ | ⟨k1, k2⟩ | k1 | ⟨k1, k2⟩ | k1
        · have HE : Hid (q = true) := Lib.hid (by rw [hq2]; exact yes (.inl ⟨k1, k2⟩))
          clear hq hq2 yes no
          rcases hbb with rfl | rfl
          · go_enter Tryd.func15, Tryd.ntmps15
            go_wp2_with fail
            go_ret
            exact ⟨by rw [HE.out]; rfl, rfl⟩
          · go_enter Tryd.func15, Tryd.ntmps15
            go_wp2_with fail
            go_ret
            exact ⟨by rw [HE.out]; rfl, rfl⟩
        · have HE : Hid (q = true) := Lib.hid (by rw [hq2]; exact yes (.inr ⟨k1, k2⟩))
          clear hq hq2 yes no
          rcases hbb with rfl | rfl
          · go_enter Tryd.func15, Tryd.ntmps15
            go_wp2_with fail
            go_ret
            exact ⟨by rw [HE.out]; rfl, rfl⟩
          · go_enter Tryd.func15, Tryd.ntmps15
            go_wp2_with fail
            go_ret
            exact ⟨by rw [HE.out]; rfl, rfl⟩
        · have HE : Hid (q = false) := Lib.hid (by rw [hq2]; exact no (by omega))
          clear hq hq2 yes no
          rcases hbb with rfl | rfl
          · go_enter Tryd.func15, Tryd.ntmps15
            go_wp2_with fail
            go_ret
            exact ⟨by rw [HE.out]; rfl, rfl⟩
          · go_enter Tryd.func15, Tryd.ntmps15
            go_wp2_with fail
            go_ret
            exact ⟨by rw [HE.out]; rfl, rfl⟩
        · have HE : Hid (q = false) := Lib.hid (by rw [hq2]; exact no (by omega))
          clear hq hq2 yes no
          rcases hbb with rfl | rfl
          · go_enter Tryd.func15, Tryd.ntmps15
            go_wp2_with fail
            go_ret
            exact ⟨by rw [HE.out]; show Ending.returned (.bool (decide (a ≤ 90))) = _; rw [decide_eq_false (show ¬ a ≤ 90 by omega)], rfl⟩
          · go_enter Tryd.func15, Tryd.ntmps15
            go_wp2_with fail
            go_ret
            exact ⟨by rw [HE.out]; show Ending.returned (.bool (decide (a ≤ 90))) = _; rw [decide_eq_false (show ¬ a ≤ 90 by omega)], rfl⟩
        · have HE : Hid (q = false) := Lib.hid (by rw [hq2]; exact no (by omega))
          clear hq hq2 yes no
          rcases hbb with rfl | rfl
          · go_enter Tryd.func15, Tryd.ntmps15
            go_wp2_with fail
            go_ret
            exact ⟨by rw [HE.out]; show Ending.returned (.bool (decide (a ≤ 90) || decide (a ≤ 122))) = _; rw [decide_eq_false (show ¬ a ≤ 90 by omega), decide_eq_false (show ¬ a ≤ 122 by omega)]; rfl, rfl⟩
          · go_enter Tryd.func15, Tryd.ntmps15
            go_wp2_with fail
            go_ret
            exact ⟨by rw [HE.out]; show Ending.returned (.bool (decide (a ≤ 90) || decide (a ≤ 122))) = _; rw [decide_eq_false (show ¬ a ≤ 90 by omega), decide_eq_false (show ¬ a ≤ 122 by omega)]; rfl, rfl⟩
      · have e1 : (b != 58) = true := by rw [bne_iff_ne]; exact fun h => hbb (.inl h)
        have e2 : (b != 124) = true := by rw [bne_iff_ne]; exact fun h => hbb (.inr h)
        have HE : Hid (q = false) := Lib.hid (by
          rw [← hq, beq_eq_false_iff_ne.2 (fun h => hbb (.inl h)), beq_eq_false_iff_ne.2 (fun h => hbb (.inr h))]
          simp)
        clear hq yes no hbb
        go_enter Tryd.func15, Tryd.ntmps15
        go_wp2_with fail
        go_ret
        exact ⟨by rw [HE.out]; rfl, rfl⟩
  · have HE : Hid (q = false) := Lib.hid (by rw [← hq]; exact drv_len (by omega))
    have hz : ((n : Int) != 2) = true := by rw [bne_iff_ne]; omega
    clear hq hr hn h2
    go_enter Tryd.func15, Tryd.ntmps15
    go_wp2_with fail
    go_ret
    exact ⟨by rw [HE.out]; rfl, rfl⟩
set_option maxHeartbeats 4000000 in
theorem RBegins_any (l : List Int) (A : Option Addr) (n c : Nat) (w : World) (hn : l.length = n) (hc : n ≤ c) (hr : Row w w.heap.size A (cl .i32 l)) : Calls Tryd.prog 17 #[.slice A n c] w (fun e w' => e = .returned (.bool (bgn l)) ∧ w = w') := by
  obtain ⟨q, hq⟩ : ∃ q, bgn l = q := ⟨_, rfl⟩
  rw [hq]
  by_cases h2 : n < 2
  · have HE : Hid (q = false) := Lib.hid (by
      rw [← hq]
      unfold bgn
      rw [drv_len (by rw [List.length_take]; omega)]
      rfl)
    clear hq hr hn
    go_enter Tryd.func17, Tryd.ntmps17
    go_wp2_with fail
    go_ret
    exact ⟨by rw [HE.out]; rfl, rfl⟩
  · have HV := Lib.hid (RDrive_any (l.take 2) A 2 c w (by rw [List.length_take]; omega) (row_takeI hr 2))
    have hsl := fun W => sl_h22 A n c 2 (by omega) W
    obtain ⟨v, hv⟩ : ∃ v, drv (l.take 2) = v := ⟨_, rfl⟩
    have hq2 : (v && aft (l.drop 2)) = q := by rw [← hv]; exact hq
    rw [hv] at HV
    clear hv hq
    have hz : ¬ (n : Int) < 2 := by omega
    by_cases h3 : n = 2
    · have HE : Hid (q = v) := Lib.hid (by
        rw [← hq2, List.drop_of_length_le (by omega)]
        simp [aft])
      have hz2 : ((n : Int) == 2) = true := by rw [h3]; rfl
      clear hr hn hq2 h3 h2
      cases v with
      | true =>
        go_enter Tryd.func17, Tryd.ntmps17
        go_wp2_with (first | (go_at_call 15; refine HV.out.mono ?_; rintro e w1 ⟨rfl, rfl⟩) | fail)
        go_ret
        exact ⟨by rw [HE.out]; rfl, rfl⟩
      | false =>
        go_enter Tryd.func17, Tryd.ntmps17
        go_wp2_with (first | (go_at_call 15; refine HV.out.mono ?_; rintro e w1 ⟨rfl, rfl⟩) | fail)
        go_ret
        exact ⟨by rw [HE.out]; rfl, rfl⟩
    · have h3' : 2 < n := by omega
      obtain ⟨g, o, rfl, hb, hcc⟩ := hr.at_ (by simp [cl]; omega)
      have hx : 2 < l.length := by omega
      obtain ⟨x, hxx⟩ : ∃ x, l[2]'hx = x := ⟨_, rfl⟩
      have c2 : w.cell? ⟨g, o + 2, none⟩ = some (.int .i32 x) := by
        rw [hcc 2 (by simp [cl]; omega), cl_get _ _ _ hx, hxx]
      have hz2 : ((n : Int) == 2) = false := by rw [beq_eq_false_iff_ne]; omega
      have hq3 : (v && (x == 47 || x == 92 || x == 63 || x == 35)) = q := by
        rw [← hq2, List.drop_eq_getElem_cons hx, hxx]
        rfl
      clear hq2 hxx hcc hr hn
      cases v with
      | false =>
        have HE : Hid (q = false) := Lib.hid (by rw [← hq3]; rfl)
        clear hq3
        go_enter Tryd.func17, Tryd.ntmps17
        go_wp2_with (first | (go_at_call 15; refine HV.out.mono ?_; rintro e w1 ⟨rfl, rfl⟩) | fail)
        go_ret
        exact ⟨by rw [HE.out]; rfl, rfl⟩
      | true =>
        cases h1 : (x == 47) <;> cases h4 : (x == 92) <;> cases h5 : (x == 63) <;> cases h6 : (x == 35)
        all_goals
          rw [h1, h4, h5, h6] at hq3
          have HE : Hid (q = _) := Lib.hid hq3.symm
          clear hq3
          go_enter Tryd.func17, Tryd.ntmps17
          go_wp2_with (first | (go_at_call 15; refine HV.out.mono ?_; rintro e w1 ⟨rfl, rfl⟩) | fail)
          go_ret
          exact ⟨by rw [HE.out]; rfl, rfl⟩
set_option maxHeartbeats 1000000 in
theorem ends_any (r : Int) (w : World) : Calls Tryd.prog 31 #[.int .i32 r] w (fun e w' => e = .returned (.bool (r == 47 || r == 92 || r == 63 || r == 35)) ∧ w = w') := by
  obtain ⟨q, hq⟩ : ∃ q, (r == 47 || r == 92 || r == 63 || r == 35) = q := ⟨_, rfl⟩
  rw [hq]
  cases h1 : (r == 47) <;> cases h2 : (r == 92) <;> cases h3 : (r == 63) <;> cases h4 : (r == 35)
  all_goals
    rw [h1, h2, h3, h4] at hq
    have HE : Hid (q = _) := Lib.hid hq.symm
    clear hq
    go_enter Tryd.func31, Tryd.ntmps31
    go_wp2_with fail
    go_ret
    exact ⟨by rw [HE.out]; rfl, rfl⟩
set_option maxHeartbeats 4000000 in
theorem Begins_any (l : List Int) (A : Option Addr) (n c : Nat) (w : World) (hn : l.length = n) (hc : n ≤ c) (hr : Row w w.heap.size A (cl .i32 l)) : Calls Tryd.prog 16 #[.slice A n c] w (fun e w' => e = .returned (.bool (bgn l)) ∧ w = w') := by
  obtain ⟨q, hq⟩ : ∃ q, bgn l = q := ⟨_, rfl⟩
  rw [hq]
  by_cases h2 : n < 2
  · have HE : Hid (q = false) := Lib.hid (by
      rw [← hq]
      unfold bgn
      rw [drv_len (by rw [List.length_take]; omega)]
      rfl)
    have HV := Lib.hid (Drive_any l A n c w hn hr)
    rw [drv_len (by omega)] at HV
    clear hq hr hn
    go_enter Tryd.func16, Tryd.ntmps16
    go_wp2_with (first | (go_at_call 14; refine HV.out.mono ?_; rintro e w1 ⟨rfl, rfl⟩) | (go_at_call 31; refine (HEN.out _).mono ?_; rintro e w2 ⟨rfl, rfl⟩) | fail)
    go_ret
    exact ⟨by rw [HE.out]; rfl, rfl⟩
  · have HV := Lib.hid (Drive_any (l.take 2) A 2 c w (by rw [List.length_take]; omega) (row_takeI hr 2))
    have hsl := fun W => sl_h22 A n c 2 (by omega) W
    obtain ⟨v, hv⟩ : ∃ v, drv (l.take 2) = v := ⟨_, rfl⟩
    have hq2 : (v && aft (l.drop 2)) = q := by rw [← hv]; exact hq
    rw [hv] at HV
    clear hq
    have hdv := hv
    clear hv
    have hz : ¬ (n : Int) < 2 := by omega
    by_cases h3 : n = 2
    · have HE : Hid (q = v) := Lib.hid (by
        rw [← hq2, List.drop_of_length_le (by omega)]
        simp [aft])
      have hz2 : ((n : Int) == 2) = true := by rw [h3]; rfl
      have ht : l.take 2 = l := List.take_of_length_le (by omega)
      have HV' := Lib.hid (Drive_any l A n c w hn hr)
      rw [← ht] at HV'
      have hle : (n : Int) ≤ 2 := by omega
      clear HV
      rw [hdv] at HV'
      have HV := HV'
      clear HV' hdv ht hr hn hq2 hsl h3 h2
      go_enter Tryd.func16, Tryd.ntmps16
      go_wp2_with (first | (go_at_call 14; refine HV.out.mono ?_; rintro e w1 ⟨rfl, rfl⟩) | (go_at_call 31; refine (HEN.out _).mono ?_; rintro e w2 ⟨rfl, rfl⟩) | fail)
      go_ret
      exact ⟨by rw [HE.out]; rfl, rfl⟩
    · have h3' : 2 < n := by omega
      obtain ⟨g, o, rfl, hb, hcc⟩ := hr.at_ (by simp [cl]; omega)
      have hx : 2 < l.length := by omega
      obtain ⟨x, hxx⟩ : ∃ x, l[2]'hx = x := ⟨_, rfl⟩
      have c2 : w.cell? ⟨g, o + 2, none⟩ = some (.int .i32 x) := by
        rw [hcc 2 (by simp [cl]; omega), cl_get _ _ _ hx, hxx]
      have hz2 : ((n : Int) == 2) = false := by rw [beq_eq_false_iff_ne]; omega
      have hq3 : (v && (x == 47 || x == 92 || x == 63 || x == 35)) = q := by
        rw [← hq2, List.drop_eq_getElem_cons hx, hxx]
        rfl
      have hgt : ¬ (n : Int) ≤ 2 := by omega
      have HEN := Lib.hid (fun W => ends_any x W)
      obtain ⟨z, hz9⟩ : ∃ z, (x == 47 || x == 92 || x == 63 || x == 35) = z := ⟨_, rfl⟩
      rw [hz9] at HEN hq3
      clear hq2 hxx hcc hr hn hz9 hdv
      cases v with
      | true =>
        have HE : Hid (q = z) := Lib.hid (by rw [← hq3]; simp)
        clear hq3
        go_enter Tryd.func16, Tryd.ntmps16
        go_wp2_with (first | (go_at_call 14; refine HV.out.mono ?_; rintro e w1 ⟨rfl, rfl⟩) | (go_at_call 31; refine (HEN.out _).mono ?_; rintro e w2 ⟨rfl, rfl⟩) | fail)
        go_ret
        exact ⟨by rw [HE.out]; rfl, rfl⟩
      | false =>
        have HE : Hid (q = false) := Lib.hid (by rw [← hq3]; rfl)
        clear hq3
        go_enter Tryd.func16, Tryd.ntmps16
        go_wp2_with (first | (go_at_call 14; refine HV.out.mono ?_; rintro e w1 ⟨rfl, rfl⟩) | (go_at_call 31; refine (HEN.out _).mono ?_; rintro e w2 ⟨rfl, rfl⟩) | fail)
        go_ret
        exact ⟨by rw [HE.out]; rfl, rfl⟩
set_option maxHeartbeats 4000000 in
theorem RPlain_any (x : ByteArray) (w : World) : Calls Tryd.prog 34 #[.string x] w (Says (nmd x) w) := by
  obtain ⟨q, hq⟩ : ∃ q, nmd x = q := ⟨_, rfl⟩
  rw [hq]
  by_cases h2 : x.size = 2
  · have hz2 : ((x.size : Int) == 2) = true := by rw [h2]; rfl
    have h11 : 1 < x.size := by omega
    obtain ⟨W2, c2, hcv, hc2, hr2, hB2⟩ := conv_all x w (by omega)
    have HD := Lib.hid (RDrive_any (rn x) _ (rn x).length c2 W2 rfl hr2)
    have HB2 := Lib.hid hB2
    have HDV := Lib.hid (fun h => drv_two h2 h)
    have HNV := Lib.hid (fun h => nmd_two h2 h)
    rw [hq] at HDV HNV
    obtain ⟨k, hk⟩ : ∃ k, (rn x).length = k := ⟨_, rfl⟩
    rw [hk] at HD hcv
    obtain ⟨y, hy⟩ : ∃ y, x[1]'h11 = y := ⟨_, rfl⟩
    rw [hy] at HDV HNV
    obtain ⟨v, hv⟩ : ∃ v, drv (rn x) = v := ⟨_, rfl⟩
    rw [hv] at HD HDV
    clear hk hr2 hB2 hc2 hv h2 hq
    by_cases h58 : y = 58
    · have ez : (((y.toNat : Nat) : Int) == 58) = true := by rw [h58]; rfl
      have HE : Hid (q = v) := Lib.hid (HDV.out h58).symm
      clear h58 HDV HNV
      cases v with
      | true =>
        go_enter Tryd.func34, Tryd.ntmps34
        go_wp2_with (first | (go_at_call 15; refine HD.out.mono ?_; rintro e w3 ⟨rfl, rfl⟩) | fail)
        go_ret
        exact ⟨by rw [HE.out]; rfl, HB2.out⟩
      | false =>
        go_enter Tryd.func34, Tryd.ntmps34
        go_wp2_with (first | (go_at_call 15; refine HD.out.mono ?_; rintro e w3 ⟨rfl, rfl⟩) | fail)
        go_ret
        exact ⟨by rw [HE.out]; rfl, HB2.out⟩
    · have ez : (((y.toNat : Nat) : Int) == 58) = false := by
        rw [beq_eq_false_iff_ne]
        intro h
        exact h58 (UInt8.toNat_inj.1 (by show y.toNat = 58; omega))
      have HE : Hid (q = false) := Lib.hid (HNV.out h58)
      clear h58 HDV HNV
      cases v with
      | true =>
        go_enter Tryd.func34, Tryd.ntmps34
        go_wp2_with (first | (go_at_call 15; refine HD.out.mono ?_; rintro e w3 ⟨rfl, rfl⟩) | fail)
        go_ret
        exact ⟨by rw [HE.out]; rfl, HB2.out⟩
      | false =>
        go_enter Tryd.func34, Tryd.ntmps34
        go_wp2_with (first | (go_at_call 15; refine HD.out.mono ?_; rintro e w3 ⟨rfl, rfl⟩) | fail)
        go_ret
        exact ⟨by rw [HE.out]; rfl, HB2.out⟩
  · have HE : Hid (q = false) := Lib.hid (by
      rw [← hq]
      exact nmL_len (by
        have : (dl x).length = x.size := by simp [dl]
        omega))
    have hz : ((x.size : Int) == 2) = false := by rw [beq_eq_false_iff_ne]; omega
    clear h2 hq
    go_enter Tryd.func34, Tryd.ntmps34
    go_wp2_with fail
    go_ret
    exact ⟨by rw [HE.out]; rfl, Below.refl _ _⟩
end Go.Proofs.YtjkfppgekepbeaaDoor.Pth
