/-
  fasciaref13: Show.
-/
import Derived.Test.YtcoppicieicikaaDoorSixRD
namespace Go.Proofs.YtcoppicieicikaaDoor.Sx
open Go.RowKit Go.Shelf

theorem bs_app (a b : List UInt8) : bs (a ++ b) = bs a ++ bs b := bytes_ext.2 (by
  rw [bs_data]
  show _ = dl _
  rw [app_dl]
  simp [dl, bs])
theorem bs_app3 (a b : List UInt8) : bs (a ++ 58 :: b) = bs a ++ ⟨#[58]⟩ ++ bs b := bytes_ext.2 (by
  rw [bs_data]
  show _ = dl _
  rw [app_dl, app_dl]
  simp [dl, bs])
theorem pt_plain {x : List Nat} {k n i : Nat} (h8 : x.length = 8) (hi : i < 8) (h : (i = 0 ∧ (n = 0 ∨ 0 < k)) ∨ (n ≠ 0 ∧ i = k + n)) : pt x k n (i + 1) = pt x k n i ++ digs 16 (nth x i) := by
  rcases h with ⟨rfl, h⟩ | ⟨h, rfl⟩
  · have e : pt x k n 0 = [] := by unfold pt; rw [if_pos (.inr (Nat.zero_le _))]; rfl
    rw [e, pt_first h8 h]
    rfl
  · exact pt_behind h8 h hi
theorem pt_len {x : List Nat} (h8 : x.length = 8) (h16 : ∀ m ∈ x, m < 65536) (k n i : Nat) : (pt x k n i).length ≤ 100 := by
  unfold pt
  have h1 := hx_jn_len (mem_take h16 i) (by rw [List.length_take]; omega)
  have h2 := hx_jn_len (mem_take h16 k) (by rw [List.length_take]; omega)
  have h3 := hx_jn_len (x := (x.drop (k + n)).take (i - (k + n))) (fun m hm => h16 m (List.mem_of_mem_drop (List.mem_of_mem_take hm))) (by rw [List.length_take, List.length_drop]; omega)
  split
  · omega
  · rw [List.length_append, List.length_cons, List.length_cons]; omega
set_option maxRecDepth 100000 in
set_option maxHeartbeats 4000000 in
theorem refShow_any (x : List Nat) (h8 : x.length = 8) (h16 : ∀ m ∈ x, m < 65536) (k n : Nat) (hr : IsRun x k n) (w : World) : Calls Tryd.prog 14 #[av x] w (Texts (shw x k n) w) := by
  have H8 := Lib.hid h8
  have H16 := Lib.hid h16
  have HR := Lib.hid (fun W => refRun_any x h8 k n hr W)
  have HEND := Lib.hid (pt_end h8 hr)
  have HKN : Hid ((n = 0 ∧ k = 0) ∨ (2 ≤ n ∧ k + n ≤ 8)) := Lib.hid (by rcases hr with ⟨h1, h2, _⟩ | ⟨h1, h2, _⟩ <;> omega)
  have h0 := Hx.new w x
  have hB0 := upA w (.cells (cu x).toArray 23)
  obtain ⟨w1, hw1⟩ : ∃ w1, w.alloc (.cells (cu x).toArray 23) = w1 := ⟨_, rfl⟩
  rw [hw1] at h0 hB0
  have HX0 := Lib.hid h0
  have HB0 := Lib.hid hB0
  rw [← HEND.out]
  clear h8 h16 hr hB0
  go_enter Tryd.func14, Tryd.ntmps14
  go_upto_region 1 with fail
  clear hw1
  go_upto_region 4 with (first | (refine load8 _ rfl _ rfl x h0 H8.out rfl ?_) | (go_at_call 12; refine (HR.out _).mono ?_; rintro e w2 ⟨rfl, hB2⟩) | fail)
  have HX1 := Lib.hid (HX0.out.go hB2)
  have HB1 := Lib.hid (upB HB0.out hB2)
  clear h0 hB2
  go_loopg [5, 6] 8 (fun m s5 s6 wr => ∃ i : Nat, s6 = .int .i64 (i : Int) ∧ 8 - i = m ∧ i ≤ 8 ∧ Hid (n = 0 ∨ i ≤ k ∨ k + n ≤ i) ∧ s5 = .string (bs (pt x k n i)) ∧ Hid (Hx wr w.heap.size x) ∧ Hid (Below w.heap.size w wr))
  case atStart => exact ⟨0, rfl, rfl, Nat.zero_le _, Lib.hid (.inr (.inl (Nat.zero_le _))), by unfold pt; rw [if_pos (.inr (Nat.zero_le _))]; rfl, HX1, HB1⟩
  case round =>
    obtain ⟨i, rfl, rfl, hi, HIN, rfl, HX, HB⟩ := hrel
    by_cases hlt : i < 8
    · have hltz : (i : Int) < 8 := by omega
      have hii : (0 : Int) ≤ (i : Int) ∧ (i : Int) < 8 := by omega
      have hit : (i : Int).toNat = i := by omega
      have hc := HX.out.cell (k := i) (by rw [H8.out]; exact hlt)
      have hv := nth_le H16.out (k := i) (by rw [H8.out]; exact hlt)
      have hkn := HKN.out
      have hin := HIN.out
      have hsz : (bs (pt x k n i)).size ≤ 100 := by rw [bs_size]; exact pt_len H8.out H16.out k n i
      obtain ⟨sS, hsS⟩ : ∃ s, bs (pt x k n i) = s := ⟨_, rfl⟩
      have HH := Lib.hid (fun W => hex_ref 3 (nth x i) W hv hv)
      have hhz : (bs (digs 16 (nth x i))).size ≤ 4 := by rw [bs_size]; exact hex_len hv
      unfold Texts at HH
      obtain ⟨sH, hsH⟩ : ∃ s, bs (digs 16 (nth x i)) = s := ⟨_, rfl⟩
      have HPV := Lib.hid (show nth x i = nth x i from rfl)
      rw [hsS] at hsz ⊢
      rw [hsH] at HH hhz
      have hvi : IntKind.i64.wrap (nth x i : Int) = (nth x i : Int) := IntWalk.i64_in _ (by omega)
      have hk1 : ¬ (9223372036854775807 < sS.size + 2) := by omega
      have hk2 : ¬ (9223372036854775807 < sS.size + 1) := by omega
      have hk3 : ¬ (9223372036854775807 < sS.size + sH.size) := by omega
      have hk4 : ¬ (9223372036854775807 < sS.size + 1 + sH.size) := by omega
      have hkni : (0 : Int) ≤ (k : Int) + (n : Int) ∧ (k : Int) + (n : Int) ≤ 8 := by omega
      have hcs : (0 < n ∧ i = k ∧ 2 ≤ n) ∨ (n = 0 ∧ i = 0 ∧ 0 = 0) ∨ (n = 0 ∧ 0 < i ∧ 0 = 0) ∨ (0 < n ∧ i = 0 ∧ 0 < k) ∨ (0 < n ∧ 0 < i ∧ i = k + n) ∨ (0 < n ∧ 0 < i ∧ (i < k ∨ k + n < i)) := by omega
      clear hkn hin
      rcases hcs with ⟨e1, e2, e3⟩ | ⟨e1, e2, e3⟩ | ⟨e1, e2, e3⟩ | ⟨e1, e2, e3⟩ | ⟨e1, e2, e3⟩ | ⟨e1, e2, e3⟩
      · subst e2
        have HS2 : Hid (bs (pt x i n (i + n)) = sS ++ ⟨#[58, 58]⟩) := Lib.hid (by rw [← pt_jump (by omega), ← hsS]; exact bs_app _ [58, 58])
        have hpn : (0 : Int) < (n : Int) := by omega
        have hdn : decide ((0 : Int) < (n : Int)) = true := decide_eq_true hpn
        have hin8 : i + n ≤ 8 := by omega
        clear hsS hsH HPV HH
        go_upto_region 7 with fail
        go_wp2_with fail
        go_roundg (8 - (i + n))
        case measure => omega
        case rel => exact ⟨i + n, by go_num, rfl, hin8, Lib.hid (.inr (.inr (Nat.le_refl _))), by rw [HS2.out], HX, HB⟩
      · have hin := HIN.out
        have HIN2 : Hid (n = 0 ∨ i + 1 ≤ k ∨ k + n ≤ i + 1) := Lib.hid (by omega)
        have HS2 : Hid (bs (pt x k n (i + 1)) = sS ++ sH) := Lib.hid (by rw [pt_plain H8.out hlt (.inl ⟨e2, .inl e1⟩), ← hsS, ← hsH]; exact bs_app _ _)
        have hpn : ¬ ((0 : Int) < (n : Int)) := by omega
        have hnn : ¬ (0 < n) := by omega
        have hdn : decide ((0 : Int) < (n : Int)) = false := decide_eq_false hpn
        have hpi0 : ¬ ((0 : Int) < (i : Int)) := by omega
        have hni0 : ¬ (0 < i) := by omega
        have hdi0 : decide ((0 : Int) < (i : Int)) = false := decide_eq_false hpi0
        clear hsS hsH e1 e2 e3 hin HPV
        go_upto_region 9 with fail
        go_upto_region 11 with fail
        go_wp2_with (first | (go_at_call 33; refine (HH.out _).mono ?_; rintro e w3 ⟨rfl, hB3⟩) | fail)
        go_roundg (8 - (i + 1))
        case measure => omega
        case rel => exact ⟨i + 1, by go_num, rfl, by omega, HIN2, by rw [HS2.out], Lib.hid (HX.out.go hB3), Lib.hid (upB HB.out hB3)⟩
      · have hin := HIN.out
        have HIN2 : Hid (n = 0 ∨ i + 1 ≤ k ∨ k + n ≤ i + 1) := Lib.hid (by omega)
        have HS2 : Hid (bs (pt x k n (i + 1)) = sS ++ ⟨#[58]⟩ ++ sH) := Lib.hid (by rw [pt_col H8.out hlt e2 (.inl e1), ← hsS, ← hsH]; exact bs_app3 _ _)
        have hpn : ¬ ((0 : Int) < (n : Int)) := by omega
        have hnn : ¬ (0 < n) := by omega
        have hdn : decide ((0 : Int) < (n : Int)) = false := decide_eq_false hpn
        have hpi0 : ((0 : Int) < (i : Int)) := by omega
        have hni0 : (0 < i) := by omega
        have hdi0 : decide ((0 : Int) < (i : Int)) = true := decide_eq_true hpi0
        clear hsS hsH e1 e2 e3 hin HPV
        go_upto_region 9 with fail
        go_upto_region 11 with fail
        go_wp2_with (first | (go_at_call 33; refine (HH.out _).mono ?_; rintro e w3 ⟨rfl, hB3⟩) | fail)
        go_roundg (8 - (i + 1))
        case measure => omega
        case rel => exact ⟨i + 1, by go_num, rfl, by omega, HIN2, by rw [HS2.out], Lib.hid (HX.out.go hB3), Lib.hid (upB HB.out hB3)⟩
      · have hin := HIN.out
        have HIN2 : Hid (n = 0 ∨ i + 1 ≤ k ∨ k + n ≤ i + 1) := Lib.hid (by omega)
        have HS2 : Hid (bs (pt x k n (i + 1)) = sS ++ sH) := Lib.hid (by rw [pt_plain H8.out hlt (.inl ⟨e2, .inr e3⟩), ← hsS, ← hsH]; exact bs_app _ _)
        have hpn : ((0 : Int) < (n : Int)) := by omega
        have hnn : (0 < n) := by omega
        have hdn : decide ((0 : Int) < (n : Int)) = true := decide_eq_true hpn
        have hpik : ¬ ((i : Int) = (k : Int)) := by omega
        have hnik : ¬ (i = k) := by omega
        have hdik : ((i : Int) == (k : Int)) = false := by rw [beq_eq_false_iff_ne]; omega
        have hpi0 : ¬ ((0 : Int) < (i : Int)) := by omega
        have hni0 : ¬ (0 < i) := by omega
        have hdi0 : decide ((0 : Int) < (i : Int)) = false := decide_eq_false hpi0
        have hpikn : ¬ ((i : Int) = (k : Int) + (n : Int)) := by omega
        have hnikn : ¬ (i = k + n) := by omega
        have hdikn : ((i : Int) == (k : Int) + (n : Int)) = false := by rw [beq_eq_false_iff_ne]; omega
        clear hsS hsH e1 e2 e3 hin HPV
        go_upto_region 9 with fail
        go_upto_region 11 with fail
        go_wp2_with (first | (go_at_call 33; refine (HH.out _).mono ?_; rintro e w3 ⟨rfl, hB3⟩) | fail)
        go_roundg (8 - (i + 1))
        case measure => omega
        case rel => exact ⟨i + 1, by go_num, rfl, by omega, HIN2, by rw [HS2.out], Lib.hid (HX.out.go hB3), Lib.hid (upB HB.out hB3)⟩
      · have hin := HIN.out
        have HIN2 : Hid (n = 0 ∨ i + 1 ≤ k ∨ k + n ≤ i + 1) := Lib.hid (by omega)
        have HS2 : Hid (bs (pt x k n (i + 1)) = sS ++ sH) := Lib.hid (by rw [pt_plain H8.out hlt (.inr ⟨by omega, e3⟩), ← hsS, ← hsH]; exact bs_app _ _)
        have hpn : ((0 : Int) < (n : Int)) := by omega
        have hnn : (0 < n) := by omega
        have hdn : decide ((0 : Int) < (n : Int)) = true := decide_eq_true hpn
        have hpik : ¬ ((i : Int) = (k : Int)) := by omega
        have hnik : ¬ (i = k) := by omega
        have hdik : ((i : Int) == (k : Int)) = false := by rw [beq_eq_false_iff_ne]; omega
        have hpi0 : ((0 : Int) < (i : Int)) := by omega
        have hni0 : (0 < i) := by omega
        have hdi0 : decide ((0 : Int) < (i : Int)) = true := decide_eq_true hpi0
        have hdikn : ((i : Int) == (k : Int) + (n : Int)) = true := by rw [beq_iff_eq]; omega
        clear hsS hsH e1 e2 e3 hin HPV
        go_upto_region 9 with fail
        go_upto_region 11 with fail
        go_wp2_with (first | (go_at_call 33; refine (HH.out _).mono ?_; rintro e w3 ⟨rfl, hB3⟩) | fail)
        go_roundg (8 - (i + 1))
        case measure => omega
        case rel => exact ⟨i + 1, by go_num, rfl, by omega, HIN2, by rw [HS2.out], Lib.hid (HX.out.go hB3), Lib.hid (upB HB.out hB3)⟩
      · have hin := HIN.out
        have HIN2 : Hid (n = 0 ∨ i + 1 ≤ k ∨ k + n ≤ i + 1) := Lib.hid (by omega)
        have HS2 : Hid (bs (pt x k n (i + 1)) = sS ++ ⟨#[58]⟩ ++ sH) := Lib.hid (by rw [pt_col H8.out hlt e2 (by omega), ← hsS, ← hsH]; exact bs_app3 _ _)
        have hpn : ((0 : Int) < (n : Int)) := by omega
        have hnn : (0 < n) := by omega
        have hdn : decide ((0 : Int) < (n : Int)) = true := decide_eq_true hpn
        have hpik : ¬ ((i : Int) = (k : Int)) := by omega
        have hnik : ¬ (i = k) := by omega
        have hdik : ((i : Int) == (k : Int)) = false := by rw [beq_eq_false_iff_ne]; omega
        have hpi0 : ((0 : Int) < (i : Int)) := by omega
        have hni0 : (0 < i) := by omega
        have hdi0 : decide ((0 : Int) < (i : Int)) = true := decide_eq_true hpi0
        have hpikn : ¬ ((i : Int) = (k : Int) + (n : Int)) := by omega
        have hnikn : ¬ (i = k + n) := by omega
        have hdikn : ((i : Int) == (k : Int) + (n : Int)) = false := by rw [beq_eq_false_iff_ne]; omega
        clear hsS hsH e1 e2 e3 hin HPV
        go_upto_region 9 with fail
        go_upto_region 11 with fail
        go_wp2_with (first | (go_at_call 33; refine (HH.out _).mono ?_; rintro e w3 ⟨rfl, hB3⟩) | fail)
        go_roundg (8 - (i + 1))
        case measure => omega
        case rel => exact ⟨i + 1, by go_num, rfl, by omega, HIN2, by rw [HS2.out], Lib.hid (HX.out.go hB3), Lib.hid (upB HB.out hB3)⟩
    · obtain rfl : i = 8 := by omega
      go_wp2_with fail
      go_ret
      exact ⟨rfl, HB.out⟩
end Go.Proofs.YtcoppicieicikaaDoor.Sx
