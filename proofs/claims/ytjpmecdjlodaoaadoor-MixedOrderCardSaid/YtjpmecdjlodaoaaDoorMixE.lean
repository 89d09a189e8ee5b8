/-
  mixed: Level, Digits, Check.
-/
import Derived.Test.YtjpmecdjlodaoaaDoorMixD
namespace Go.Proofs.YtjpmecdjlodaoaaDoor.Mix
open Go.RowKit Ucd Rul

/-- a place, or none -/
def PlaceB (q : Bool) (w : World) (e : Ending) (w' : World) : Prop := ∃ i : Int, e = .returned (.int .i64 i) ∧ decide (0 ≤ i) = q ∧ Below w.heap.size w w'
set_option maxRecDepth 100000 in
set_option maxHeartbeats 1000000 in
theorem Index_bey (l : List Int) (A : Option Addr) (n c : Nat) (w0 : World) (hn : l.length = n) (hn1 : n ≤ 1000000) (hr : Row w0 w0.heap.size A (cl .i32 l)) : Calls Tryd.prog 36 #[.slice A n c, .func (.func 24) #[] #[]] w0 (PlaceB (l.any bey) w0) := by
  have HN := Lib.hid hn
  clear hn
  go_enter Tryd.func36, Tryd.ntmps36
  go_wp2_with fail
  go_loopg [8] n (fun m s8 wr => ∃ k : Nat, s8 = .int .i64 (k : Int) ∧ m = n - k ∧ k ≤ n ∧ Hid (∀ j, j < k → bey l[j]! = false) ∧ Below w0.heap.size w0 wr)
  case atStart => exact ⟨0, rfl, rfl, Nat.zero_le _, Lib.hid (fun j hj => by omega), Below.refl _ _⟩
  case round =>
    obtain ⟨k, rfl, rfl, hk, HNo, hB⟩ := hrel
    by_cases hlt : k < n
    · have hltz : (k : Int) < (n : Int) := by omega
      obtain ⟨b, o, rfl, hb', hcc⟩ := (hr.below hB).at_ (by have := HN.out; simp; omega)
      have c0 := row_cell hcc k (by rw [HN.out]; exact hlt)
      have hm := mems (l := l) (i := k) (by rw [HN.out]; exact hlt)
      obtain ⟨y, hy⟩ : ∃ y, l[k]! = y := ⟨_, rfl⟩
      rw [hy] at c0 hm
      have HY := Lib.hid hy
      have HM := Lib.hid hm
      have HC := Lib.hid (beyond_any y)
      obtain ⟨q, hq⟩ : ∃ q, bey y = q := ⟨_, rfl⟩
      rw [hq] at HC
      have HV := Lib.hid hq
      clear hcc hy hm hq
      cases q with
      | true =>
        have HQ : Hid (l.any bey = true) := Lib.hid (List.any_eq_true.2 ⟨y, HM.out, HV.out⟩)
        go_wp2_with (first | (go_at_call 24; refine (HC.out _).mono ?_; rintro e w1 ⟨rfl, hB1⟩) | fail)
        go_ret
        exact ⟨k, rfl, by rw [HQ.out]; exact decide_eq_true (by omega), upB hB hB1⟩
      | false =>
        go_wp2_with (first | (go_at_call 24; refine (HC.out _).mono ?_; rintro e w1 ⟨rfl, hB1⟩) | fail)
        go_roundg (n - (k + 1))
        case measure => omega
        case rel =>
          refine ⟨k + 1, by go_num, rfl, by omega, Lib.hid (fun j hj => ?_), upB hB hB1⟩
          by_cases hjk : j = k
          · subst hjk; rw [HY.out]; exact HV.out
          · exact HNo.out j (by omega)
    · obtain rfl : k = n := by omega
      have hltz : ¬ ((k : Nat) : Int) < (k : Int) := by omega
      have HQ : Hid (l.any bey = false) := Lib.hid (by
        rw [List.any_eq_false]
        intro r h
        obtain ⟨j, hj, e⟩ := List.getElem_of_mem h
        have := HNo.out j (by have := HN.out; omega)
        rw [getElem!_pos l j hj, e] at this
        rw [this]
        simp)
      go_wp2_with fail
      go_ret
      exact ⟨-1, rfl, by rw [HQ.out]; rfl, hB⟩
set_option maxRecDepth 100000 in
set_option maxHeartbeats 1000000 in
theorem Contains_bey (l : List Int) (A : Option Addr) (n c : Nat) (w0 : World) (hn : l.length = n) (hn1 : n ≤ 1000000) (hr : Row w0 w0.heap.size A (cl .i32 l)) : Calls Tryd.prog 23 #[.slice A n c, .func (.func 24) #[] #[]] w0 (IsB (l.any bey) w0) := by
  have HI := Lib.hid (Index_bey l A n c w0 hn hn1 hr)
  generalize l.any bey = q at HI ⊢
  clear hn hr
  go_enter Tryd.func23, Tryd.ntmps23
  go_wp2_with (first | (go_at_call 36; refine HI.out.mono ?_; rintro e w1 ⟨i, rfl, hi, hB1⟩) | fail)
  go_ret
  exact ⟨by rw [← hi]; first | rfl | simp, hB1⟩
theorem bey_asc (l : List Int) : l.any bey = !(asc l) := by
  unfold asc bey
  exact any_not _ l
set_option maxRecDepth 100000 in
set_option maxHeartbeats 1000000 in
theorem Level_any (l : List Int) (A : Option Addr) (n c : Nat) (w : World) (hn : l.length = n) (hn1 : n ≤ 1000000) (hr : Row w w.heap.size A (cl .i32 l)) : Calls Tryd.prog 10 #[.slice A n c] w (Tells (.int .u8 (lev l)) w) := by
  have HB := Lib.hid (Contains_bey l A n c w hn hn1 hr)
  have HC := Lib.hid (fun W (h : Below w.heap.size w W) => count_any l A n c W hn hn1 (upR hr h))
  have HL := Lib.hid (fun W => level_any (cn l) (cn_len l) (cn_nn l (by omega)) W)
  rw [lv_cn] at HL
  rw [bey_asc] at HB
  unfold lev
  generalize lv (sb l) = y at HL ⊢
  generalize cn l = L at HC HL
  generalize asc l = q at HB ⊢
  clear hn hr
  cases q with
  | true =>
    go_enter Tryd.func10, Tryd.ntmps10
    go_wp2_with (first | (go_at_call 23; refine HB.out.mono ?_; rintro e w1 ⟨rfl, hB1⟩) | fail)
    go_ret
    exact ⟨rfl, hB1⟩
  | false =>
    go_enter Tryd.func10, Tryd.ntmps10
    go_wp2_with (first | (go_at_call 23; refine HB.out.mono ?_; rintro e w1 ⟨rfl, hB1⟩) | (go_at_call 20; refine (HC.out _ hB1).mono ?_; rintro e w2 ⟨rfl, hB2⟩) | (go_at_call 25; refine (HL.out _).mono ?_; rintro e w3 ⟨rfl, hB3⟩) | fail)
    go_ret
    exact ⟨rfl, upB (upB hB1 hB2) hB3⟩

/-! Digits. -/
/-- those that are digits are of system s -/
def OneS (l : List Int) (s : Int) : Prop := (∀ a ∈ l, dg a = 0 ∨ dg a = s) ∧ (s = 0 ∨ ∃ a ∈ l, dg a = s)
theorem oneS_nil : OneS [] 0 := ⟨fun a h => by simp at h, .inl rfl⟩
theorem oneS_zero {l : List Int} {s r : Int} (h : OneS l s) (hr : dg r = 0) : OneS (l ++ [r]) s := by
  refine ⟨fun a ha => ?_, ?_⟩
  · rcases List.mem_append.1 ha with ha | ha
    · exact h.1 a ha
    · rw [List.mem_singleton.1 ha]; exact .inl hr
  · rcases h.2 with h | ⟨a, ha, e⟩
    · exact .inl h
    · exact .inr ⟨a, List.mem_append_left _ ha, e⟩
theorem oneS_next {l : List Int} {s r : Int} (h : OneS l s) (hs : s = 0 ∨ s = dg r) : OneS (l ++ [r]) (dg r) := by
  refine ⟨fun a ha => ?_, .inr ⟨r, by simp, rfl⟩⟩
  rcases List.mem_append.1 ha with ha | ha
  · have := h.1 a ha
    omega
  · rw [List.mem_singleton.1 ha]; exact .inr rfl
theorem dgs_iff (l : List Int) : dgs l = true ↔ ∀ a ∈ l, ∀ b ∈ l, dg a = 0 ∨ dg b = 0 ∨ dg a = dg b := by
  unfold dgs
  simp only [List.all_eq_true, Bool.or_eq_true, beq_iff_eq, or_assoc]
theorem oneS_end {l : List Int} {s : Int} (h : OneS l s) : dgs l = true := by
  rw [dgs_iff]
  intro a ha b hb
  have := h.1 a ha
  have := h.1 b hb
  omega
theorem oneS_bad {l t : List Int} {s r : Int} (h : OneS t s) (ht : ∀ a ∈ t, a ∈ l) (hr : r ∈ l) (h0 : dg r ≠ 0) (hs : s ≠ 0) (hne : s ≠ dg r) : dgs l = false := by
  cases hq : dgs l with
  | false => rfl
  | true =>
    exfalso
    rw [dgs_iff] at hq
    rcases h.2 with h | ⟨a, ha, e⟩
    · exact hs h
    · have := hq a (ht a ha) r hr
      omega
set_option maxRecDepth 100000 in
set_option maxHeartbeats 1000000 in
theorem Digits_any (l : List Int) (A : Option Addr) (n c : Nat) (w : World) (hn : l.length = n) (hn1 : n ≤ 1000000) (hr : Row w w.heap.size A (cl .i32 l)) : Calls Tryd.prog 12 #[.slice A n c] w (IsB (dgs l) w) := by
  have HN := Lib.hid hn
  clear hn
  go_enter Tryd.func12, Tryd.ntmps12
  go_wp2_with fail
  go_loopg [3, 9] n (fun m s3 s9 wr => ∃ (k : Nat) (s : Int), s9 = .int .i64 (k : Int) ∧ s3 = .int .u8 s ∧ m = n - k ∧ k ≤ n ∧ Hid (OneS (l.take k) s) ∧ Below w.heap.size w wr)
  case atStart => exact ⟨0, 0, rfl, rfl, rfl, Nat.zero_le _, Lib.hid oneS_nil, Below.refl _ _⟩
  case round =>
    obtain ⟨k, s, rfl, rfl, rfl, hk, HS, hB⟩ := hrel
    by_cases hlt : k < n
    · have hltz : (k : Int) < (n : Int) := by omega
      obtain ⟨b, o, rfl, hb', hcc⟩ := (hr.below hB).at_ (by have := HN.out; rw [List.length_map]; omega)
      have c0 := row_cell hcc k (by rw [HN.out]; exact hlt)
      have HT := Lib.hid (take_snoc l k (by rw [HN.out]; exact hlt))
      have HM := Lib.hid (mems (l := l) (i := k) (by rw [HN.out]; exact hlt))
      obtain ⟨r, hr0⟩ : ∃ r, l[k]! = r := ⟨_, rfl⟩
      rw [hr0] at c0 HT HM
      have HO := Lib.hid (fun w => Of_any r w)
      have HF := fldD (of r)
      have HZ : Hid (dg r = g (of r) 5) := Lib.hid rfl
      generalize of r = p at HO HF HZ
      generalize g p 5 = z at HF HZ
      clear hcc hr0
      by_cases hz : z = 0
      · have HS2 : Hid (OneS (l.take (k + 1)) s) := Lib.hid (by rw [HT.out]; exact oneS_zero HS.out (HZ.out.trans hz))
        subst hz
        go_wp2_with (first | (go_at_call 28; refine (HO.out _).mono ?_; rintro e w2 ⟨rfl, hB2⟩) | fail)
        go_roundg (n - (k + 1))
        case measure => omega
        case rel => exact ⟨k + 1, s, by go_num, rfl, rfl, by omega, HS2, upB hB hB2⟩
      · have hzb : (z == 0) = false := by simpa using hz
        by_cases hs : s = 0
        · have HS2 : Hid (OneS (l.take (k + 1)) z) := Lib.hid (by rw [HT.out, ← HZ.out]; exact oneS_next HS.out (.inl hs))
          subst hs
          clear hz
          go_wp2_with (first | (go_at_call 28; refine (HO.out _).mono ?_; rintro e w2 ⟨rfl, hB2⟩) | fail)
          go_roundg (n - (k + 1))
          case measure => omega
          case rel => exact ⟨k + 1, z, by go_num, rfl, rfl, by omega, HS2, upB hB hB2⟩
        · by_cases hsz : s = z
          · have HS2 : Hid (OneS (l.take (k + 1)) z) := Lib.hid (by rw [HT.out, ← HZ.out]; exact oneS_next HS.out (.inr (by rw [HZ.out]; exact hsz)))
            subst hsz
            have hsb : (s != s) = false := by simp
            have hs0 : (s != 0) = true := by simpa using hs
            clear hz hs
            go_wp2_with (first | (go_at_call 28; refine (HO.out _).mono ?_; rintro e w2 ⟨rfl, hB2⟩) | fail)
            go_roundg (n - (k + 1))
            case measure => omega
            case rel => exact ⟨k + 1, s, by go_num, rfl, rfl, by omega, HS2, upB hB hB2⟩
          · have HQ : Hid (dgs l = false) := Lib.hid (oneS_bad HS.out (fun a ha => List.mem_of_mem_take ha) HM.out (by rw [HZ.out]; exact hz) hs (by rw [HZ.out]; exact hsz))
            have hs0 : (s != 0) = true := by simpa using hs
            have hsb : (s != z) = true := by simpa using hsz
            clear hz hs hsz
            go_wp2_with (first | (go_at_call 28; refine (HO.out _).mono ?_; rintro e w2 ⟨rfl, hB2⟩) | fail)
            go_ret
            exact ⟨by rw [HQ.out]; rfl, upB hB hB2⟩
    · obtain rfl : k = n := by omega
      have hltz : ¬ ((k : Nat) : Int) < (k : Int) := by omega
      have HQ : Hid (dgs l = true) := Lib.hid (by
        have := HS.out
        rw [List.take_of_length_le (by rw [HN.out]; exact Nat.le_refl _)] at this
        exact oneS_end this)
      go_wp2_with fail
      go_ret
      exact ⟨by rw [HQ.out]; rfl, hB⟩
set_option maxRecDepth 100000 in
set_option maxHeartbeats 1000000 in
theorem Check_any (l : List Int) (A : Option Addr) (n c : Nat) (w : World) (hn : l.length = n) (hn1 : n ≤ 1000000) (hr : Row w w.heap.size A (cl .i32 l)) : Calls Tryd.prog 14 #[.slice A n c] w (Tells (.int .u8 (chk l)) w) := by
  have HL := Lib.hid (Level_any l A n c w hn hn1 hr)
  have HD := Lib.hid (fun W (h : Below w.heap.size w W) => Digits_any l A n c W hn hn1 (upR hr h))
  unfold chk
  generalize lev l = y at HL ⊢
  generalize dgs l = q at HD ⊢
  clear hn hr
  by_cases hy : y = 4
  · subst hy
    go_enter Tryd.func14, Tryd.ntmps14
    go_wp2_with (first | (go_at_call 10; refine HL.out.mono ?_; rintro e w1 ⟨rfl, hB1⟩) | fail)
    go_ret
    exact ⟨rfl, hB1⟩
  · have hyb : (y == 4) = false := by simpa using hy
    rw [if_neg hy]
    clear hy
    cases q with
    | true =>
      go_enter Tryd.func14, Tryd.ntmps14
      go_wp2_with (first | (go_at_call 10; refine HL.out.mono ?_; rintro e w1 ⟨rfl, hB1⟩) | (go_at_call 12; refine (HD.out _ hB1).mono ?_; rintro e w2 ⟨rfl, hB2⟩) | fail)
      go_ret
      exact ⟨rfl, upB hB1 hB2⟩
    | false =>
      go_enter Tryd.func14, Tryd.ntmps14
      go_wp2_with (first | (go_at_call 10; refine HL.out.mono ?_; rintro e w1 ⟨rfl, hB1⟩) | (go_at_call 12; refine (HD.out _ hB1).mono ?_; rintro e w2 ⟨rfl, hB2⟩) | fail)
      go_ret
      exact ⟨rfl, upB hB1 hB2⟩
end Go.Proofs.YtjpmecdjlodaoaaDoor.Mix
