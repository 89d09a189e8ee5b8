/-
  fasciaref10: Has, Scripts, of, together.
-/
import Derived.Test.YtjpmecdjlodaoaaDoorMixF
import Derived.Test.YtjpmecdjlodaoaaDoorUcdRefC
namespace Go.Proofs.YtjpmecdjlodaoaaDoor.Mix
open Go.RowKit Ucd Rul

def has (l : List Int) (s : Int) : Bool := l.any (fun r => sc r == s)
set_option maxRecDepth 100000 in
set_option maxHeartbeats 1000000 in
theorem Has_any (s : Int) (l : List Int) (A : Option Addr) (n cap : Nat) (w : World) (hn : l.length = n) (hn1 : n ≤ 1000000) (hC : C32 l) (hr : Row w w.heap.size A (cl .i32 l)) : Calls Tryd.prog 22 #[.slice A n cap, .int .u8 s] w (IsB (has l s) w) := by
  have HN := Lib.hid hn
  have HC := Lib.hid hC
  clear hn hC
  go_enter Tryd.func22, Tryd.ntmps22
  go_wp2_with fail
  go_loopg [5] n (fun m s5 wr => ∃ k : Nat, s5 = .int .i64 (k : Int) ∧ m = n - k ∧ k ≤ n ∧ Hid (∀ j, j < k → (sc l[j]! == s) = false) ∧ Below w.heap.size w wr)
  case atStart => exact ⟨0, rfl, rfl, Nat.zero_le _, Lib.hid (fun j hj => by omega), Below.refl _ _⟩
  case round =>
    obtain ⟨k, rfl, rfl, hk, HNo, hB⟩ := hrel
    by_cases hlt : k < n
    · have hltz : (k : Int) < (n : Int) := by omega
      obtain ⟨b, o, rfl, hb', hcc⟩ := (hr.below hB).at_ (by have := HN.out; rw [List.length_map]; omega)
      have c0 := row_cell hcc k (by rw [HN.out]; exact hlt)
      have HM := Lib.hid (mems (l := l) (i := k) (by rw [HN.out]; exact hlt))
      have hc := HC.out _ HM.out
      obtain ⟨r, hr0⟩ : ∃ r, l[k]! = r := ⟨_, rfl⟩
      have HY := Lib.hid hr0
      rw [hr0] at c0 HM hc
      have HO := Lib.hid (fun w => RefOf_any r w hc.1 hc.2)
      have HF := fldS (of r)
      have HZ : Hid (sc r = g (of r) 4) := Lib.hid rfl
      generalize of r = p at HO HF HZ
      generalize g p 4 = z at HF HZ
      clear hcc hr0 hc
      by_cases hz : z = s
      · have HQ : Hid (has l s = true) := Lib.hid (List.any_eq_true.2 ⟨r, HM.out, by rw [HZ.out, hz]; simp⟩)
        subst hz
        have hzb : (z == z) = true := by simp
        go_wp2_with (first | (go_at_call 29; refine (HO.out _).mono ?_; rintro e w2 ⟨rfl, hB2⟩) | fail)
        go_ret
        exact ⟨by rw [HQ.out]; rfl, upB hB hB2⟩
      · have hzb : (z == s) = false := by simpa using hz
        clear hz
        have HZZ : Hid ((z == s) = false) := Lib.hid hzb
        go_wp2_with (first | (go_at_call 29; refine (HO.out _).mono ?_; rintro e w2 ⟨rfl, hB2⟩) | fail)
        go_roundg (n - (k + 1))
        case measure => omega
        case rel =>
          refine ⟨k + 1, by go_num, rfl, by omega, Lib.hid (fun j hj => ?_), upB hB hB2⟩
          by_cases hjk : j = k
          · subst hjk; rw [HY.out, HZ.out]; exact HZZ.out
          · exact HNo.out j (by omega)
    · obtain rfl : k = n := by omega
      have hltz : ¬ ((k : Nat) : Int) < (k : Int) := by omega
      have HQ : Hid (has l s = false) := Lib.hid (by
        unfold has
        rw [List.any_eq_false]
        intro r h
        obtain ⟨j, hj, e⟩ := List.getElem_of_mem h
        have := HNo.out j (by have := HN.out; omega)
        rw [getElem!_pos l j hj, e] at this
        rw [this]
        simp)
      go_wp2_with fail
      go_ret
      exact ⟨by rw [HQ.out]; rfl, hB⟩
theorem scrK_sb (l : List Int) (k : Nat) (hk : 2 ≤ k) : (sb l k = has l (k : Int)) := by
  unfold sb has
  rw [decide_eq_true hk, Bool.true_and]
theorem scrK_two (l : List Int) : scrK (sb l) 2 = [] := by
  unfold scrK
  rw [show List.range 2 = [0, 1] from rfl]
  simp [sb]
set_option maxRecDepth 100000 in
set_option maxHeartbeats 1000000 in
theorem RefScripts_any (l : List Int) (A : Option Addr) (n cap : Nat) (w : World) (hn : l.length = n) (hn1 : n ≤ 1000000) (hC : C32 l) (hr : Row w w.heap.size A (cl .i32 l)) : Calls Tryd.prog 9 #[.slice A n cap] w (Row8 (scripts l) w) := by
  have HH := Lib.hid (fun s W (h : Below w.heap.size w W) => Has_any s l A n cap W hn hn1 hC (upR hr h))
  clear hr hn hC
  go_enter Tryd.func9, Tryd.ntmps9
  go_wp2_with fail
  go_loopg [3, 4] 10 (fun m s3 s4 wr => ∃ (k : Nat) (A : Option Addr) (c : Nat), s4 = .int .u8 (k : Int) ∧ s3 = .slice A (scrK (sb l) k).length c ∧ m = 12 - k ∧ 2 ≤ k ∧ k ≤ 12 ∧ wr.ownsRow w.heap.size 5 1 (.slice A (scrK (sb l) k).length c) (scrK (sb l) k).length (cl .u8 (scrK (sb l) k)) ∧ Below w.heap.size w wr)
  case atStart => exact ⟨2, none, 0, rfl, by rw [scrK_two]; rfl, rfl, Nat.le_refl _, by omega, by rw [scrK_two]; exact World.ownsRow_nil _ _ _ _, Below.refl _ _⟩
  case round =>
    obtain ⟨k, A1, c1, rfl, rfl, rfl, hk2, hk, hO, hB⟩ := hrel
    have hlen := scrK_len (sb l) k
    by_cases hlt : k < 12
    · have hltz : (k : Int) ≤ 11 := by omega
      have hwk : IntKind.u8.wrap ((k : Int) + 1) = (k : Int) + 1 := by simp [IntKind.wrap, IntKind.bits, IntKind.signed]; omega
      have HP := Lib.hid (scrK_sb l k hk2)
      have HC := Lib.hid (HH.out (k : Int))
      generalize has l (k : Int) = q at HP HC
      cases q with
      | true =>
        have HS := Lib.hid (scrK_yes (p := sb l) (k := k) HP.out)
        generalize scrK (sb l) k = xs at hO hlen HS ⊢
        obtain ⟨n1, hn⟩ : ∃ n, xs.length = n := ⟨_, rfl⟩
        rw [hn] at hO hlen ⊢
        have HNn := Lib.hid hn
        clear hn
        go_wp2_with (first
          | (go_at_call 22; refine (HC.out _ hB).mono ?_; rintro e w1 ⟨rfl, hB1⟩; have hO1 := own_below hO hB1; have hB1' := upB hB hB1)
          | (at_builtin; (refine wpList_app8 w w1 (by rfl) _ _ (by rfl) (.slice A1 n1 c1) n1 (n1 + 1) xs k (by rfl) hO1 hB1' (by rfl) rfl (by omega) ?_; intro A2 c2 w2 hO2 hB2)) | fail)
        go_roundg (12 - (k + 1))
        case measure => omega
        case rel =>
          refine ⟨k + 1, A2, c2, by go_num, ?_, rfl, by omega, by omega, ?_, hB2⟩
          · rw [HS.out, List.length_append, HNn.out]; rfl
          · rw [HS.out, List.length_append, HNn.out]; exact hO2
      | false =>
        have HS := Lib.hid (scrK_no (p := sb l) (k := k) HP.out)
        go_wp2_with (first
          | (go_at_call 22; refine (HC.out _ hB).mono ?_; rintro e w1 ⟨rfl, hB1⟩; have hO1 := own_below hO hB1; have hB1' := upB hB hB1) | fail)
        go_roundg (12 - (k + 1))
        case measure => omega
        case rel => exact ⟨k + 1, A1, c1, by go_num, by rw [HS.out], rfl, by omega, by omega, by rw [HS.out]; exact hO1, hB1'⟩
    · obtain rfl : k = 12 := by omega
      have hr := own_row hO
      go_wp2_with fail
      go_ret
      exact ⟨A1, c1, rfl, hr, hB⟩
/-- are all of some three? -/
def ofR (xs : List Int) (a b c : Int) : Bool := xs.all (fun x => x == a || x == b || x == c)
set_option maxRecDepth 100000 in
set_option maxHeartbeats 1000000 in
theorem of_any (a b c : Int) (xs : List Int) (A : Option Addr) (n cap : Nat) (w : World) (hn : xs.length = n) (hn1 : n ≤ 1000000) (hr : Row w w.heap.size A (cl .u8 xs)) : Calls Tryd.prog 27 #[.slice A n cap, .int .u8 a, .int .u8 b, .int .u8 c] w (IsB (ofR xs a b c) w) := by
  have HN := Lib.hid hn
  clear hn
  go_enter Tryd.func27, Tryd.ntmps27
  go_wp2_with fail
  go_loopg [9] n (fun m s9 wr => ∃ k : Nat, s9 = .int .i64 (k : Int) ∧ m = n - k ∧ k ≤ n ∧ Hid (∀ j, j < k → (xs[j]! == a || xs[j]! == b || xs[j]! == c) = true) ∧ wr = w)
  case atStart => exact ⟨0, rfl, rfl, Nat.zero_le _, Lib.hid (fun j hj => by omega), rfl⟩
  case round =>
    obtain ⟨k, rfl, rfl, hk, HNo, rfl⟩ := hrel
    by_cases hlt : k < n
    · have hltz : (k : Int) < (n : Int) := by omega
      obtain ⟨b', o, rfl, hb', hcc⟩ := hr.at_ (by have := HN.out; rw [List.length_map]; omega)
      have c0 := cell8 hcc k (by rw [HN.out]; exact hlt)
      have HM := Lib.hid (mems (l := xs) (i := k) (by rw [HN.out]; exact hlt))
      obtain ⟨y, hy⟩ : ∃ y, xs[k]! = y := ⟨_, rfl⟩
      have HY := Lib.hid hy
      rw [hy] at c0 HM
      clear hcc hy
      have HNx : Hid ((y == a || y == b || y == c) = true → ∀ j, j < k + 1 → (xs[j]! == a || xs[j]! == b || xs[j]! == c) = true) := Lib.hid (fun h j hj => by
        by_cases hjk : j = k
        · subst hjk; rw [HY.out]; exact h
        · exact HNo.out j (by omega))
      have HQ0 : Hid ((y == a || y == b || y == c) = false → ofR xs a b c = false) := Lib.hid (fun h => by
        cases hq : ofR xs a b c with
        | false => rfl
        | true =>
          have := List.all_eq_true.1 hq y HM.out
          rw [h] at this
          cases this)
      by_cases ha : y = a
      · have hna : (y != a) = false := by simpa using ha
        have HE := Lib.hid (HNx.out (by simp [ha]))
        clear ha
        go_wp2_with fail
        go_roundg (n - (k + 1))
        case measure => omega
        case rel => exact ⟨k + 1, by go_num, rfl, by omega, HE, rfl⟩
      · have hna : (y != a) = true := by simpa using ha
        by_cases hbb : y = b
        · have hnb : (y != b) = false := by simpa using hbb
          have HE := Lib.hid (HNx.out (by simp [hbb]))
          clear ha hbb
          go_wp2_with fail
          go_roundg (n - (k + 1))
          case measure => omega
          case rel => exact ⟨k + 1, by go_num, rfl, by omega, HE, rfl⟩
        · have hnb : (y != b) = true := by simpa using hbb
          by_cases hcb : y = c
          · have hnc : (y != c) = false := by simpa using hcb
            have HE := Lib.hid (HNx.out (by simp [hcb]))
            clear ha hbb hcb
            go_wp2_with fail
            go_roundg (n - (k + 1))
            case measure => omega
            case rel => exact ⟨k + 1, by go_num, rfl, by omega, HE, rfl⟩
          · have hnc : (y != c) = true := by simpa using hcb
            have HQ := Lib.hid (HQ0.out (by simp [ha, hbb, hcb]))
            clear ha hbb hcb
            go_wp2_with fail
            go_ret
            exact ⟨by rw [HQ.out]; rfl, Below.refl _ _⟩
    · obtain rfl : k = n := by omega
      have hltz : ¬ ((k : Nat) : Int) < (k : Int) := by omega
      have HQ : Hid (ofR xs a b c = true) := Lib.hid (by
        unfold ofR
        rw [List.all_eq_true]
        intro r h
        obtain ⟨j, hj, e⟩ := List.getElem_of_mem h
        have := HNo.out j (by have := HN.out; omega)
        rw [getElem!_pos xs j hj, e] at this
        exact this)
      go_wp2_with fail
      go_ret
      exact ⟨by rw [HQ.out]; rfl, Below.refl _ _⟩
def togR (xs : List Int) : Bool := decide (xs.length < 2) || ofR xs 8 9 10 || ofR xs 8 11 11
set_option maxRecDepth 100000 in
set_option maxHeartbeats 1000000 in
theorem RefTog_any (xs : List Int) (A : Option Addr) (n cap : Nat) (w : World) (hn : xs.length = n) (hn1 : n ≤ 1000000) (hr : Row w w.heap.size A (cl .u8 xs)) : Calls Tryd.prog 26 #[.slice A n cap] w (IsB (togR xs) w) := by
  have H1 := Lib.hid (of_any 8 9 10 xs A n cap w hn hn1 hr)
  have H2 := Lib.hid (fun W (h : Below w.heap.size w W) => of_any 8 11 11 xs A n cap W hn hn1 (upR hr h))
  unfold togR
  rw [hn]
  generalize ofR xs 8 9 10 = q1 at H1 ⊢
  generalize ofR xs 8 11 11 = q2 at H2 ⊢
  clear hn hr
  by_cases h2 : n < 2
  · have hz : (n : Int) < 2 := by omega
    have hd : decide (n < 2) = true := decide_eq_true h2
    go_enter Tryd.func26, Tryd.ntmps26
    go_wp2_with fail
    go_ret
    exact ⟨by rw [hd]; rfl, Below.refl _ _⟩
  · have hz : decide ((n : Int) < 2) = false := decide_eq_false (by omega)
    have hd : decide (n < 2) = false := decide_eq_false h2
    clear h2
    cases q1 with
    | true =>
      go_enter Tryd.func26, Tryd.ntmps26
      go_wp2_with (first | (go_at_call 27; refine H1.out.mono ?_; rintro e w1 ⟨rfl, hB1⟩) | fail)
      go_ret
      exact ⟨by rw [hd]; rfl, hB1⟩
    | false =>
      go_enter Tryd.func26, Tryd.ntmps26
      go_wp2_with (first | (go_at_call 27; have hB1' := hB1; refine (H2.out _ hB1).mono ?_; rintro e w2 ⟨rfl, hB2⟩) | (go_at_call 27; refine H1.out.mono ?_; rintro e w1 ⟨rfl, hB1⟩) | fail)
      go_ret
      exact ⟨by rw [hd]; rfl, upB hB1 hB2⟩
end Go.Proofs.YtjpmecdjlodaoaaDoor.Mix
