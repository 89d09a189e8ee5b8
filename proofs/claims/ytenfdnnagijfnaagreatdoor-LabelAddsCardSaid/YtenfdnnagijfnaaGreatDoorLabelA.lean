/-
  label: what a label may violate, one by one.
-/
import Derived.Test.YtenfdnnagijfnaaGreatDoorRemapC
import Derived.Test.YtenfdnnagijfnaaGreatDoorNormZ
import Derived.Test.YtenfdnnagijfnaaGreatDoorStabH
namespace Go.Proofs.YtenfdnnagijfnaaGreatDoor
open Go.RowKit Norm Remap

theorem runs_1000 {l : List Int} {k : Nat} (h : l.length = k) (hk : k ≤ 4000) : Runs 100000 (dec l) := runs_short (by have := dec_len l; omega)
theorem Is_q (l : List Int) (q : Bool) (A : Option Addr) (k cap : Nat) (w : World) (hk : l.length = k) (hl : k ≤ 4000) (hC : C32 l) (hr : Row w w.heap.size A (cl .i32 l)) (h : decide (nfc l = l) = q) :
    Calls Tryz.prog 23 #[.slice A k cap] w (IsB q w) := by
  have hR := runs_1000 hk hl
  subst hk
  subst h
  exact Is_any 100000 stable_any l A cap w hl hC hr hR
theorem gets {l : List Int} {i : Nat} (h : i < l.length) : l[i]? = some l[i]! := by rw [List.getElem?_eq_getElem h, getElem!_pos l i h]
theorem mems {l : List Int} {i : Nat} (h : i < l.length) : l[i]! ∈ l := by rw [getElem!_pos l i h]; exact List.getElem_mem h
theorem row_cell {w : World} {b o : Nat} {l : List Int} (hc : ∀ k, k < (cl .i32 l).length → w.cell? ⟨b, o + k, none⟩ = (cl .i32 l)[k]?) (k : Nat) (hk : k < l.length) : w.cell? ⟨b, o + k, none⟩ = some (.int .i32 l[k]!) := by
  rw [hc k (by simpa using hk), List.getElem?_map, gets hk]
  rfl
/-- the clauses: number k is violated -/
def vio (l : List Int) : Nat → Bool
  | 0 => decide (l.length = 0)
  | 1 => !(decide (nfc l = l))
  | 2 => decide (4 ≤ l.length) && (decide (l[2]! = 45) && decide (l[3]! = 45))
  | 3 => decide (l[0]! = 45) || decide (l[l.length - 1]! = 45)
  | 4 => decide (46 ∈ l)
  | 5 => decide (Ucd.g (Ucd.of l[0]!) 0 = 4)
  | _ => l.any fun r => !(vd r)
set_option maxRecDepth 100000 in
set_option maxHeartbeats 1000000 in
theorem empty_any (l : List Int) (A : Option Addr) (n c : Nat) (w : World) (hn : l.length = n) : Calls Tryz.prog 76 #[.slice A n c] w (IsB (vio l 0) w) := by
  have e : vio l 0 = decide (n = 0) := by rw [show vio l 0 = decide (l.length = 0) from rfl, hn]
  rw [e]
  clear e hn
  by_cases h : n = 0
  · subst h
    go_enter Tryz.func76, Tryz.ntmps76
    go_wp2
    go_ret
    exact ⟨rfl, Below.refl _ _⟩
  · have hz : ¬ (n : Int) = 0 := by omega
    go_enter Tryz.func76, Tryz.ntmps76
    go_wp2
    go_ret
    exact ⟨by simp [h], Below.refl _ _⟩
set_option maxRecDepth 100000 in
set_option maxHeartbeats 1000000 in
theorem unnorm_any (l : List Int) (A : Option Addr) (n c : Nat) (w : World) (hn : l.length = n) (hl : n ≤ 4000) (hC : C32 l) (hr : Row w w.heap.size A (cl .i32 l)) : Calls Tryz.prog 77 #[.slice A n c] w (IsB (vio l 1) w) := by
  obtain ⟨q, hq⟩ : ∃ q, decide (nfc l = l) = q := ⟨_, rfl⟩
  have e : vio l 1 = !q := by rw [show vio l 1 = !(decide (nfc l = l)) from rfl, hq]
  rw [e]
  have HI := Lib.hid (Is_q l q A n c w hn hl hC hr hq)
  clear e hn hq hl hC hr
  go_enter Tryz.func77, Tryz.ntmps77
  go_wp2_with (first | (go_at_call 23; refine HI.out.mono ?_; rintro e w1 ⟨rfl, hB1⟩) | fail)
  go_ret
  exact ⟨rfl, hB1⟩
set_option maxRecDepth 100000 in
set_option maxHeartbeats 1000000 in
theorem inside_any (l : List Int) (A : Option Addr) (n c : Nat) (w : World) (hn : l.length = n) (hr : Row w w.heap.size A (cl .i32 l)) : Calls Tryz.prog 78 #[.slice A n c] w (IsB (vio l 2) w) := by
  by_cases h4 : 4 ≤ n
  · obtain ⟨b, o, rfl, hb, hcc⟩ := hr.at_ (by simp; omega)
    have c2 := row_cell hcc 2 (by omega)
    have c3 := row_cell hcc 3 (by omega)
    obtain ⟨x, hx⟩ : ∃ x, l[2]! = x := ⟨_, rfl⟩
    obtain ⟨y, hy⟩ : ∃ y, l[3]! = y := ⟨_, rfl⟩
    have e : vio l 2 = (decide (x = 45) && decide (y = 45)) := by rw [show vio l 2 = (decide (4 ≤ l.length) && (decide (l[2]! = 45) && decide (l[3]! = 45))) from rfl, hn, hx, hy, decide_eq_true h4, Bool.true_and]
    rw [e]
    rw [hx] at c2
    rw [hy] at c3
    have h4z : (4 : Int) ≤ (n : Int) := by omega
    have h2z : (2 : Int) < (n : Int) := by omega
    have h3z : (3 : Int) < (n : Int) := by omega
    clear hcc hx hy e hn hr h4
    by_cases h2 : x = 45
    · by_cases h3 : y = 45
      · go_enter Tryz.func78, Tryz.ntmps78
        go_wp2
        go_ret
        exact ⟨by simp [h2, h3], Below.refl _ _⟩
      · go_enter Tryz.func78, Tryz.ntmps78
        go_wp2
        go_ret
        exact ⟨by simp [h3], Below.refl _ _⟩
    · go_enter Tryz.func78, Tryz.ntmps78
      go_wp2
      go_ret
      exact ⟨by simp [h2], Below.refl _ _⟩
  · have e : vio l 2 = false := by rw [show vio l 2 = (decide (4 ≤ l.length) && (decide (l[2]! = 45) && decide (l[3]! = 45))) from rfl, hn, decide_eq_false h4, Bool.false_and]
    rw [e]
    have h4z : ¬ (4 : Int) ≤ (n : Int) := by omega
    clear e hn hr h4
    go_enter Tryz.func78, Tryz.ntmps78
    go_wp2
    go_ret
    exact ⟨by simp, Below.refl _ _⟩
set_option maxRecDepth 100000 in
set_option maxHeartbeats 1000000 in
theorem edge_any (l : List Int) (A : Option Addr) (n c : Nat) (w : World) (hn : l.length = n) (h0 : 0 < n) (hn1 : n ≤ 1000000) (hr : Row w w.heap.size A (cl .i32 l)) : Calls Tryz.prog 79 #[.slice A n c] w (IsB (vio l 3) w) := by
  obtain ⟨b, o, rfl, hb, hcc⟩ := hr.at_ (by simp; omega)
  have c0 := row_cell hcc 0 (by omega)
  have c1 := row_cell hcc (n - 1) (by omega)
  rw [Nat.add_zero] at c0
  obtain ⟨x, hx⟩ : ∃ x, l[0]! = x := ⟨_, rfl⟩
  obtain ⟨y, hy⟩ : ∃ y, l[n - 1]! = y := ⟨_, rfl⟩
  have e : vio l 3 = (decide (x = 45) || decide (y = 45)) := by rw [show vio l 3 = (decide (l[0]! = 45) || decide (l[l.length - 1]! = 45)) from rfl, hn, hx, hy]
  rw [e]
  rw [hx] at c0
  rw [hy] at c1
  obtain ⟨p, hp⟩ : ∃ p, n - 1 = p := ⟨_, rfl⟩
  rw [hp] at c1
  have hsub : (n : Int) - 1 = (p : Int) := by omega
  have hwp : IntKind.i64.wrap (p : Int) = (p : Int) := IntWalk.i64_in _ (by omega)
  have b0 : (0 : Int) < (n : Int) := by omega
  have b1 : (p : Int) < (n : Int) := by omega
  have b2 : (0 : Int) ≤ (p : Int) := by omega
  clear hcc hx hy e hn hr hp h0
  by_cases h2 : x = 45
  · go_enter Tryz.func79, Tryz.ntmps79
    go_wp2
    go_ret
    exact ⟨by simp [h2], Below.refl _ _⟩
  · by_cases h3 : y = 45
    · go_enter Tryz.func79, Tryz.ntmps79
      go_wp2
      go_ret
      exact ⟨by simp [h3], Below.refl _ _⟩
    · go_enter Tryz.func79, Tryz.ntmps79
      go_wp2
      go_ret
      exact ⟨by simp [h2, h3], Below.refl _ _⟩
set_option maxRecDepth 100000 in
set_option maxHeartbeats 1000000 in
theorem mark_any (l : List Int) (A : Option Addr) (n c : Nat) (w : World) (hn : l.length = n) (h0 : 0 < n) (hr : Row w w.heap.size A (cl .i32 l)) : Calls Tryz.prog 81 #[.slice A n c] w (IsB (vio l 5) w) := by
  obtain ⟨b, o, rfl, hb, hcc⟩ := hr.at_ (by simp; omega)
  have c0 := row_cell hcc 0 (by omega)
  rw [Nat.add_zero] at c0
  rw [show vio l 5 = decide (Ucd.g (Ucd.of l[0]!) 0 = 4) from rfl]
  obtain ⟨x, hx⟩ : ∃ x, l[0]! = x := ⟨_, rfl⟩
  rw [hx] at c0 ⊢
  have HO := Lib.hid (fun w => Of_any x w)
  have HRC : ∀ (p : List Int) w, (Instr.field 32 (pv p) 0).run Tryz.prog w = .ok (.int .u8 (Ucd.g p 0)) w := fun p w => by kernel_rfl
  have HR := HRC (Ucd.of x)
  generalize Ucd.of x = p at HO HR ⊢
  obtain ⟨y, hy⟩ : ∃ y, Ucd.g p 0 = y := ⟨_, rfl⟩
  rw [hy] at HR ⊢
  have b0 : (0 : Int) < (n : Int) := by omega
  clear hcc hx hy hn hr h0 HRC
  by_cases h : y = 4
  · go_enter Tryz.func81, Tryz.ntmps81
    go_wp2_with (first | (go_at_call 24; refine (HO.out _).mono ?_; rintro e w1 ⟨rfl, hB1⟩) | fail)
    go_ret
    exact ⟨by simp [h], hB1⟩
  · go_enter Tryz.func81, Tryz.ntmps81
    go_wp2_with (first | (go_at_call 24; refine (HO.out _).mono ?_; rintro e w1 ⟨rfl, hB1⟩) | fail)
    go_ret
    exact ⟨by simp [h], hB1⟩
/-- a place, or none -/
def PlaceB (q : Bool) (w : World) (e : Ending) (w' : World) : Prop := ∃ i : Int, e = .returned (.int .i64 i) ∧ decide (0 ≤ i) = q ∧ Below w.heap.size w w'
set_option maxRecDepth 100000 in
set_option maxHeartbeats 1000000 in
theorem Index_any (x : Int) (l : List Int) (A : Option Addr) (n c : Nat) (w : World) (hn : l.length = n) (hn1 : n ≤ 1000000) (hr : Row w w.heap.size A (cl .i32 l)) : Calls Tryz.prog 124 #[.slice A n c, .int .i32 x] w (PlaceB (decide (x ∈ l)) w) := by
  have HN := Lib.hid hn
  clear hn
  go_enter Tryz.func124, Tryz.ntmps124
  go_wp2_with fail
  go_loopg [8] n (fun m s8 wr => ∃ k : Nat, s8 = .int .i64 (k : Int) ∧ m = n - k ∧ k ≤ n ∧ Hid (∀ j, j < k → l[j]! ≠ x) ∧ wr = w)
  case atStart => exact ⟨0, rfl, rfl, Nat.zero_le _, Lib.hid (fun j hj => by omega), rfl⟩
  case round =>
    obtain ⟨k, rfl, rfl, hk, HNo, rfl⟩ := hrel
    by_cases hlt : k < n
    · have hltz : (k : Int) < (n : Int) := by omega
      obtain ⟨b, o, rfl, hb, hcc⟩ := hr.at_ (by have := HN.out; simp; omega)
      have c0 := row_cell hcc k (by rw [HN.out]; exact hlt)
      have hm := mems (l := l) (i := k) (by rw [HN.out]; exact hlt)
      obtain ⟨y, hy⟩ : ∃ y, l[k]! = y := ⟨_, rfl⟩
      rw [hy] at c0 hm
      have HY := Lib.hid hy
      have HM := Lib.hid hm
      clear hcc hy hm
      by_cases h : x = y
      · subst h
        have HQ : Hid (decide (x ∈ l) = true) := Lib.hid (decide_eq_true HM.out)
        go_wp2_with fail
        go_ret
        exact ⟨k, rfl, by rw [HQ.out]; exact decide_eq_true (by omega), Below.refl _ _⟩
      · have h' : ¬ y = x := fun e => h e.symm
        go_wp2_with fail
        go_roundg (n - (k + 1))
        case measure => omega
        case rel =>
          refine ⟨k + 1, by go_num, rfl, by omega, Lib.hid (fun j hj => ?_), rfl⟩
          by_cases hjk : j = k
          · subst hjk; rw [HY.out]; exact h'
          · exact HNo.out j (by omega)
    · obtain rfl : k = n := by omega
      have hltz : ¬ ((k : Nat) : Int) < (k : Int) := by omega
      have HQ : Hid (decide (x ∈ l) = false) := Lib.hid (decide_eq_false fun h => by
        obtain ⟨j, hj, e⟩ := List.getElem_of_mem h
        refine HNo.out j (by have := HN.out; omega) ?_
        rw [getElem!_pos l j hj]
        exact e)
      go_wp2_with fail
      go_ret
      exact ⟨-1, rfl, by rw [HQ.out]; rfl, Below.refl _ _⟩
set_option maxRecDepth 100000 in
set_option maxHeartbeats 1000000 in
theorem dotted_any (l : List Int) (A : Option Addr) (n c : Nat) (w : World) (hn : l.length = n) (hn1 : n ≤ 1000000) (hr : Row w w.heap.size A (cl .i32 l)) : Calls Tryz.prog 80 #[.slice A n c] w (IsB (vio l 4) w) := by
  have HI := Lib.hid (Index_any 46 l A n c w hn hn1 hr)
  rw [show vio l 4 = decide (46 ∈ l) from rfl]
  generalize decide (46 ∈ l) = q at HI ⊢
  have HC : Hid (Calls Tryz.prog 102 #[.slice A n c, .int .i32 46] w (IsB q w)) := by
    refine Lib.hid ?_
    clear hn hr
    go_enter Tryz.func102, Tryz.ntmps102
    go_wp2_with (first | (go_at_call 124; refine HI.out.mono ?_; rintro e w1 ⟨i, rfl, hi, hB1⟩) | fail)
    go_ret
    exact ⟨by rw [← hi]; first | rfl | simp, hB1⟩
  clear hn hr HI
  go_enter Tryz.func80, Tryz.ntmps80
  go_wp2_with (first | (go_at_call 102; refine HC.out.mono ?_; rintro e w1 ⟨rfl, hB1⟩) | fail)
  go_ret
  exact ⟨rfl, hB1⟩
set_option maxRecDepth 100000 in
set_option maxHeartbeats 1000000 in
theorem clo_any (r : Int) (w : World) : Calls Tryz.prog 104 #[.int .i32 r] w (Tells (.bool (!(vd r))) w) := by
  have HC := Lib.hid (fun w => Code_any r w)
  generalize vd r = q at HC ⊢
  go_enter Tryz.func104, Tryz.ntmps104
  go_wp2_with (first | (go_at_call 25; refine (HC.out _).mono ?_; rintro e w1 ⟨rfl, hB1⟩) | fail)
  go_ret
  exact ⟨rfl, hB1⟩
set_option maxRecDepth 100000 in
set_option maxHeartbeats 1000000 in
theorem IndexF_any (l : List Int) (A : Option Addr) (n c : Nat) (w : World) (hn : l.length = n) (hn1 : n ≤ 1000000) (hr : Row w w.heap.size A (cl .i32 l)) : Calls Tryz.prog 125 #[.slice A n c, .func (.func 104) #[] #[]] w (PlaceB (l.any fun r => !(vd r)) w) := by
  have HN := Lib.hid hn
  clear hn
  go_enter Tryz.func125, Tryz.ntmps125
  go_wp2_with fail
  go_loopg [8] n (fun m s8 wr => ∃ k : Nat, s8 = .int .i64 (k : Int) ∧ m = n - k ∧ k ≤ n ∧ Hid (∀ j, j < k → vd l[j]! = true) ∧ Below w.heap.size w wr)
  case atStart => exact ⟨0, rfl, rfl, Nat.zero_le _, Lib.hid (fun j hj => by omega), Below.refl _ _⟩
  case round =>
    obtain ⟨k, rfl, rfl, hk, HNo, hB⟩ := hrel
    by_cases hlt : k < n
    · have hltz : (k : Int) < (n : Int) := by omega
      obtain ⟨b, o, rfl, hb, hcc⟩ := (hr.below hB).at_ (by have := HN.out; simp; omega)
      have c0 := row_cell hcc k (by rw [HN.out]; exact hlt)
      have hm := mems (l := l) (i := k) (by rw [HN.out]; exact hlt)
      obtain ⟨y, hy⟩ : ∃ y, l[k]! = y := ⟨_, rfl⟩
      rw [hy] at c0 hm
      have HY := Lib.hid hy
      have HM := Lib.hid hm
      have HC := Lib.hid (fun w => clo_any y w)
      obtain ⟨q, hq⟩ : ∃ q, vd y = q := ⟨_, rfl⟩
      rw [hq] at HC
      have HV := Lib.hid hq
      clear hcc hy hm hq
      cases q with
      | false =>
        have HQ : Hid ((l.any fun r => !(vd r)) = true) := Lib.hid (List.any_eq_true.2 ⟨y, HM.out, by rw [HV.out]; rfl⟩)
        go_wp2_with (first | (go_at_call 104; refine (HC.out _).mono ?_; rintro e w1 ⟨rfl, hB1⟩) | fail)
        go_ret
        exact ⟨k, rfl, by rw [HQ.out]; exact decide_eq_true (by omega), hB.trans (hB1.mono hB.size)⟩
      | true =>
        go_wp2_with (first | (go_at_call 104; refine (HC.out _).mono ?_; rintro e w1 ⟨rfl, hB1⟩) | fail)
        go_roundg (n - (k + 1))
        case measure => omega
        case rel =>
          refine ⟨k + 1, by go_num, rfl, by omega, Lib.hid (fun j hj => ?_), hB.trans (hB1.mono hB.size)⟩
          by_cases hjk : j = k
          · subst hjk; rw [HY.out]; exact HV.out
          · exact HNo.out j (by omega)
    · obtain rfl : k = n := by omega
      have hltz : ¬ ((k : Nat) : Int) < (k : Int) := by omega
      have HQ : Hid ((l.any fun r => !(vd r)) = false) := Lib.hid (by
        rw [List.any_eq_false]
        intro r h
        obtain ⟨j, hj, e⟩ := List.getElem_of_mem h
        have := HNo.out j (by have := HN.out; omega)
        rw [getElem!_pos l j hj, e] at this
        rw [this]
        simp)
      go_wp2_with fail
      go_ret
      exact ⟨-1, rfl, by rw [HQ.out]; rfl, hB⟩
set_option maxRecDepth 100000 in
set_option maxHeartbeats 1000000 in
theorem disallowed_any (l : List Int) (A : Option Addr) (n c : Nat) (w : World) (hn : l.length = n) (hn1 : n ≤ 1000000) (hr : Row w w.heap.size A (cl .i32 l)) : Calls Tryz.prog 82 #[.slice A n c] w (IsB (vio l 6) w) := by
  have HI := Lib.hid (IndexF_any l A n c w hn hn1 hr)
  have e : vio l 6 = l.any fun r => !(vd r) := rfl
  rw [e]
  generalize (l.any fun r => !(vd r)) = q at HI ⊢
  have HC : Hid (Calls Tryz.prog 103 #[.slice A n c, .func (.func 104) #[] #[]] w (IsB q w)) := by
    refine Lib.hid ?_
    clear hn hr
    go_enter Tryz.func103, Tryz.ntmps103
    go_wp2_with (first | (go_at_call 125; refine HI.out.mono ?_; rintro e w1 ⟨i, rfl, hi, hB1⟩) | fail)
    go_ret
    exact ⟨by rw [← hi]; first | rfl | simp, hB1⟩
  clear hn hr HI
  go_enter Tryz.func82, Tryz.ntmps82
  go_wp2_with (first | (go_at_call 103; refine HC.out.mono ?_; rintro e w1 ⟨rfl, hB1⟩) | fail)
  go_ret
  exact ⟨rfl, hB1⟩
end Go.Proofs.YtenfdnnagijfnaaGreatDoor
