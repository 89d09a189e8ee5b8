/-
  fasciaref03: In, hex; fasciaref01: Scalar, Bytes, Encode; fasciaref15.Special.
-/
import Derived.Test.YtjkfppgekepbeaaDoorPthRB
import Derived.Test.YtjkfppgekepbeaaDoorUtfMath2
namespace Go.Proofs.YtjkfppgekepbeaaDoor.Pth
set_option maxRecDepth 100000
open Go.RowKit Go.Shelf Utf Ut Hst

set_option maxHeartbeats 4000000 in
theorem RIn_any (r : Int) (w : World) : Calls Tryd.prog 57 #[.int .u8 5, .int .i32 r] w (fun e w' => e = .returned (.bool (inP r)) ∧ w = w') := by
  obtain ⟨q, hq⟩ : ∃ q, inP r = q := ⟨_, rfl⟩
  rw [hq]
  by_cases h1 : r < 32
  · have HE : Hid (q = true) := Lib.hid (by rw [← hq]; unfold inP; rw [decide_eq_true (show r < 32 ∨ 126 < r from .inl h1)]; rfl)
    clear hq
    go_enter Tryd.func57, Tryd.ntmps57
    go_wp2_with fail
    go_ret
    exact ⟨by rw [HE.out]; rfl, rfl⟩
  by_cases h2 : 126 < r
  · have HE : Hid (q = true) := Lib.hid (by rw [← hq]; unfold inP; rw [decide_eq_true (show r < 32 ∨ 126 < r from .inr h2)]; rfl)
    clear hq
    go_enter Tryd.func57, Tryd.ntmps57
    go_wp2_with fail
    go_ret
    exact ⟨by rw [HE.out]; rfl, rfl⟩
  rcases (show r = 32 ∨ r = 34 ∨ r = 60 ∨ r = 62 ∨ r = 35 ∨ r = 39 ∨ r = 63 ∨ r = 94 ∨ r = 123 ∨ r = 125 ∨ r = 96 ∨ r = 47 ∨ r = 58 ∨ r = 59 ∨ r = 61 ∨ r = 64 ∨ r = 91 ∨ r = 92 ∨ r = 93 ∨ r = 124 ∨ (r ≠ 32 ∧ r ≠ 34 ∧ r ≠ 60 ∧ r ≠ 62 ∧ r ≠ 35 ∧ r ≠ 39 ∧ r ≠ 63 ∧ r ≠ 94 ∧ r ≠ 123 ∧ r ≠ 125 ∧ r ≠ 96 ∧ r ≠ 47 ∧ r ≠ 58 ∧ r ≠ 59 ∧ r ≠ 61 ∧ r ≠ 64 ∧ r ≠ 91 ∧ r ≠ 92 ∧ r ≠ 93 ∧ r ≠ 124) by omega) with rfl | rfl | rfl | rfl | rfl | rfl | rfl | rfl | rfl | rfl | rfl | rfl | rfl | rfl | rfl | rfl | rfl | rfl | rfl | rfl | hn
  · have HE : Hid (q = true) := Lib.hid (by rw [← hq]; decide)
    clear hq
    go_enter Tryd.func57, Tryd.ntmps57
    go_wp2_with fail
    go_ret
    exact ⟨by rw [HE.out]; rfl, rfl⟩
  · have HE : Hid (q = true) := Lib.hid (by rw [← hq]; decide)
    clear hq
    go_enter Tryd.func57, Tryd.ntmps57
    go_wp2_with fail
    go_ret
    exact ⟨by rw [HE.out]; rfl, rfl⟩
  · have HE : Hid (q = true) := Lib.hid (by rw [← hq]; decide)
    clear hq
    go_enter Tryd.func57, Tryd.ntmps57
    go_wp2_with fail
    go_ret
    exact ⟨by rw [HE.out]; rfl, rfl⟩
  · have HE : Hid (q = true) := Lib.hid (by rw [← hq]; decide)
    clear hq
    go_enter Tryd.func57, Tryd.ntmps57
    go_wp2_with fail
    go_ret
    exact ⟨by rw [HE.out]; rfl, rfl⟩
  · have HE : Hid (q = true) := Lib.hid (by rw [← hq]; decide)
    clear hq
    go_enter Tryd.func57, Tryd.ntmps57
    go_wp2_with fail
    go_ret
    exact ⟨by rw [HE.out]; rfl, rfl⟩
  · have HE : Hid (q = false) := Lib.hid (by rw [← hq]; decide)
    clear hq
    go_enter Tryd.func57, Tryd.ntmps57
    go_wp2_with fail
    go_ret
    exact ⟨by rw [HE.out]; rfl, rfl⟩
  · have HE : Hid (q = true) := Lib.hid (by rw [← hq]; decide)
    clear hq
    go_enter Tryd.func57, Tryd.ntmps57
    go_wp2_with fail
    go_ret
    exact ⟨by rw [HE.out]; rfl, rfl⟩
  · have HE : Hid (q = true) := Lib.hid (by rw [← hq]; decide)
    clear hq
    go_enter Tryd.func57, Tryd.ntmps57
    go_wp2_with fail
    go_ret
    exact ⟨by rw [HE.out]; rfl, rfl⟩
  · have HE : Hid (q = true) := Lib.hid (by rw [← hq]; decide)
    clear hq
    go_enter Tryd.func57, Tryd.ntmps57
    go_wp2_with fail
    go_ret
    exact ⟨by rw [HE.out]; rfl, rfl⟩
  · have HE : Hid (q = true) := Lib.hid (by rw [← hq]; decide)
    clear hq
    go_enter Tryd.func57, Tryd.ntmps57
    go_wp2_with fail
    go_ret
    exact ⟨by rw [HE.out]; rfl, rfl⟩
  · have HE : Hid (q = true) := Lib.hid (by rw [← hq]; decide)
    clear hq
    go_enter Tryd.func57, Tryd.ntmps57
    go_wp2_with fail
    go_ret
    exact ⟨by rw [HE.out]; rfl, rfl⟩
  · have HE : Hid (q = false) := Lib.hid (by rw [← hq]; decide)
    clear hq
    go_enter Tryd.func57, Tryd.ntmps57
    go_wp2_with fail
    go_ret
    exact ⟨by rw [HE.out]; rfl, rfl⟩
  · have HE : Hid (q = false) := Lib.hid (by rw [← hq]; decide)
    clear hq
    go_enter Tryd.func57, Tryd.ntmps57
    go_wp2_with fail
    go_ret
    exact ⟨by rw [HE.out]; rfl, rfl⟩
  · have HE : Hid (q = false) := Lib.hid (by rw [← hq]; decide)
    clear hq
    go_enter Tryd.func57, Tryd.ntmps57
    go_wp2_with fail
    go_ret
    exact ⟨by rw [HE.out]; rfl, rfl⟩
  · have HE : Hid (q = false) := Lib.hid (by rw [← hq]; decide)
    clear hq
    go_enter Tryd.func57, Tryd.ntmps57
    go_wp2_with fail
    go_ret
    exact ⟨by rw [HE.out]; rfl, rfl⟩
  · have HE : Hid (q = false) := Lib.hid (by rw [← hq]; decide)
    clear hq
    go_enter Tryd.func57, Tryd.ntmps57
    go_wp2_with fail
    go_ret
    exact ⟨by rw [HE.out]; rfl, rfl⟩
  · have HE : Hid (q = false) := Lib.hid (by rw [← hq]; decide)
    clear hq
    go_enter Tryd.func57, Tryd.ntmps57
    go_wp2_with fail
    go_ret
    exact ⟨by rw [HE.out]; rfl, rfl⟩
  · have HE : Hid (q = false) := Lib.hid (by rw [← hq]; decide)
    clear hq
    go_enter Tryd.func57, Tryd.ntmps57
    go_wp2_with fail
    go_ret
    exact ⟨by rw [HE.out]; rfl, rfl⟩
  · have HE : Hid (q = false) := Lib.hid (by rw [← hq]; decide)
    clear hq
    go_enter Tryd.func57, Tryd.ntmps57
    go_wp2_with fail
    go_ret
    exact ⟨by rw [HE.out]; rfl, rfl⟩
  · have HE : Hid (q = false) := Lib.hid (by rw [← hq]; decide)
    clear hq
    go_enter Tryd.func57, Tryd.ntmps57
    go_wp2_with fail
    go_ret
    exact ⟨by rw [HE.out]; rfl, rfl⟩
  · have HE : Hid (q = false) := Lib.hid (by
      rw [← hq]
      unfold inP
      rw [decide_eq_false (show ¬ (r < 32 ∨ 126 < r) by omega), Bool.false_or]
      refine decide_eq_false fun h => ?_
      simp only [List.mem_cons, List.not_mem_nil, or_false] at h
      omega)
    have H := Lib.hid hn
    have e32 : (r == 32) = false := beq_eq_false_iff_ne.2 (by have := H.out; omega)
    have e34 : (r == 34) = false := beq_eq_false_iff_ne.2 (by have := H.out; omega)
    have e60 : (r == 60) = false := beq_eq_false_iff_ne.2 (by have := H.out; omega)
    have e62 : (r == 62) = false := beq_eq_false_iff_ne.2 (by have := H.out; omega)
    have e35 : (r == 35) = false := beq_eq_false_iff_ne.2 (by have := H.out; omega)
    have e39 : (r == 39) = false := beq_eq_false_iff_ne.2 (by have := H.out; omega)
    have e63 : (r == 63) = false := beq_eq_false_iff_ne.2 (by have := H.out; omega)
    have e94 : (r == 94) = false := beq_eq_false_iff_ne.2 (by have := H.out; omega)
    have e123 : (r == 123) = false := beq_eq_false_iff_ne.2 (by have := H.out; omega)
    have e125 : (r == 125) = false := beq_eq_false_iff_ne.2 (by have := H.out; omega)
    have e96 : (r == 96) = false := beq_eq_false_iff_ne.2 (by have := H.out; omega)
    have e47 : (r == 47) = false := beq_eq_false_iff_ne.2 (by have := H.out; omega)
    have e58 : (r == 58) = false := beq_eq_false_iff_ne.2 (by have := H.out; omega)
    have e59 : (r == 59) = false := beq_eq_false_iff_ne.2 (by have := H.out; omega)
    have e61 : (r == 61) = false := beq_eq_false_iff_ne.2 (by have := H.out; omega)
    have e64 : (r == 64) = false := beq_eq_false_iff_ne.2 (by have := H.out; omega)
    have e91 : (r == 91) = false := beq_eq_false_iff_ne.2 (by have := H.out; omega)
    have e92 : (r == 92) = false := beq_eq_false_iff_ne.2 (by have := H.out; omega)
    have e93 : (r == 93) = false := beq_eq_false_iff_ne.2 (by have := H.out; omega)
    have e124 : (r == 124) = false := beq_eq_false_iff_ne.2 (by have := H.out; omega)
    clear hq hn H
    go_enter Tryd.func57, Tryd.ntmps57
    go_wp2_with fail
    go_ret
    exact ⟨by rw [HE.out]; rfl, rfl⟩
set_option maxHeartbeats 1000000 in
theorem hex_any (x : Nat) (hx : x < 16) (w : World) : Calls Tryd.prog 59 #[.int .i64 (x : Int)] w (fun e w' => e = .returned (.int .u8 (dgU (x : Int))) ∧ w = w') := by
  by_cases h : x < 10
  · have h' : (x : Int) < 10 := by omega
    have HE : Hid (dgU (x : Int) = 48 + (x : Int)) := Lib.hid (by unfold dgU; rw [if_pos h'])
    have hw : IntKind.u8.wrap (48 + (x : Int)) = 48 + (x : Int) := by simp [IntKind.wrap, IntKind.signed, IntKind.bits]; omega
    rw [HE.out]
    go_enter Tryd.func59, Tryd.ntmps59
    go_wp2_with fail
    go_ret
    exact ⟨rfl, rfl⟩
  · have h' : ¬ (x : Int) < 10 := by omega
    have HE : Hid (dgU (x : Int) = 65 + (x : Int) - 10) := Lib.hid (by unfold dgU; rw [if_neg h']; omega)
    have hw : IntKind.u8.wrap (65 + (x : Int) - 10) = 65 + (x : Int) - 10 := by simp [IntKind.wrap, IntKind.signed, IntKind.bits]; omega
    rw [HE.out]
    go_enter Tryd.func59, Tryd.ntmps59
    go_wp2_with fail
    go_ret
    exact ⟨rfl, rfl⟩
set_option maxHeartbeats 400000 in
theorem RScalar_any (r : Int) (w : World) : Calls Tryd.prog 72 #[.int .i32 r] w fun e w' => e = .returned (.bool (Utf.sca r)) ∧ w = w' := by
  obtain ⟨q, hq⟩ : ∃ q, Utf.sca r = q := ⟨_, rfl⟩
  rw [hq]
  rcases (show r < 0 ∨ (0 ≤ r ∧ r < 55296) ∨ (55296 ≤ r ∧ r ≤ 57343) ∨ (57343 < r ∧ r ≤ 1114111) ∨ 1114111 < r by omega) with h | ⟨h, h'⟩ | ⟨h, h'⟩ | ⟨h, h'⟩ | h
  · have HE : Hid (q = false) := Lib.hid (by rw [← hq]; exact decide_eq_false (by omega))
    clear hq
    go_enter Tryd.func72, Tryd.ntmps72
    go_wp2
    go_ret
    exact ⟨by rw [HE.out]; first | (simp; done) | (simp; omega), rfl⟩
  · have HE : Hid (q = true) := Lib.hid (by rw [← hq]; exact decide_eq_true (by omega))
    clear hq
    go_enter Tryd.func72, Tryd.ntmps72
    go_wp2
    go_ret
    exact ⟨by rw [HE.out]; first | (simp; done) | (simp; omega), rfl⟩
  · have HE : Hid (q = false) := Lib.hid (by rw [← hq]; exact decide_eq_false (by omega))
    clear hq
    go_enter Tryd.func72, Tryd.ntmps72
    go_wp2
    go_ret
    exact ⟨by rw [HE.out]; first | (simp; done) | (simp; omega), rfl⟩
  · have HE : Hid (q = true) := Lib.hid (by rw [← hq]; exact decide_eq_true (by omega))
    clear hq
    go_enter Tryd.func72, Tryd.ntmps72
    go_wp2
    go_ret
    exact ⟨by rw [HE.out]; first | (simp; done) | (simp; omega), rfl⟩
  · have HE : Hid (q = false) := Lib.hid (by rw [← hq]; exact decide_eq_false (by omega))
    clear hq
    go_enter Tryd.func72, Tryd.ntmps72
    go_wp2
    go_ret
    exact ⟨by rw [HE.out]; first | (simp; done) | (simp; omega), rfl⟩
/-- a row of bytes that is told -/
def BytesR (xs : List Int) (w : World) (e : Ending) (w' : World) : Prop := ∃ A c, e = .returned (.slice A xs.length c) ∧ Row w' w'.heap.size A (cl .u8 xs) ∧ Below w.heap.size w w'
theorem row_lit' (w : World) (cs : Array Value) (t : TypeId) (xs : List Value) (h : cs.toList = xs) : Row (w.alloc (.cells cs t)) (w.alloc (.cells cs t)).heap.size (some ⟨w.heap.size, 0, none⟩) xs := by
  rw [World.size_alloc]
  exact row_new _ _ _ _ h
set_option maxHeartbeats 1000000 in
theorem RBytes_any (r : Int) (w : World) (h0 : 0 ≤ r) (h1 : r ≤ 1114111) : Calls Tryd.prog 73 #[.int .i32 r] w (BytesR (b1 r) w) := by
  by_cases a1 : r ≤ 127
  · rw [b1_1 a1]
    go_enter Tryd.func73, Tryd.ntmps73
    go_wp2
    go_ret
    exact ⟨_, 1, rfl, row_lit' w _ _ _ rfl, upA w _⟩
  by_cases a2 : r ≤ 2047
  · rw [b1_2 (r := r) (by omega) a2]
    go_enter Tryd.func73, Tryd.ntmps73
    go_wp2
    go_ret
    exact ⟨_, 2, rfl, row_lit' w _ _ _ rfl, upA w _⟩
  by_cases a3 : r ≤ 65535
  · rw [b1_3 (r := r) (by omega) a3]
    go_enter Tryd.func73, Tryd.ntmps73
    go_wp2
    go_ret
    exact ⟨_, 3, rfl, row_lit' w _ _ _ rfl, upA w _⟩
  · rw [b1_4 (r := r) (by omega)]
    go_enter Tryd.func73, Tryd.ntmps73
    go_wp2
    go_ret
    exact ⟨_, 4, rfl, row_lit' w _ _ _ rfl, upA w _⟩
/-- a row of bytes of the call's own -/
def OwnBytes (xs : List Int) (w : World) (e : Ending) (w' : World) : Prop := ∃ A c, e = .returned (.slice A xs.length c) ∧ w'.ownsRow w.heap.size 5 1 (.slice A xs.length c) xs.length (cl .u8 xs) ∧ Below w.heap.size w w'
set_option maxHeartbeats 4000000 in
theorem REncode_any (l : List Int) (A : Option Addr) (n c : Nat) (w : World) (hn : l.length = n) (hl : n ≤ 20000) (hr : Row w w.heap.size A (cl .i32 l)) : Calls Tryd.prog 58 #[.slice A n c] w (OwnBytes (enc l) w) := by
  have HN := Lib.hid hn
  have HR := Lib.hid hr
  clear hn hr
  go_enter Tryd.func58, Tryd.ntmps58
  go_wp2_with fail
  go_loopg [3, 4] n (fun m s3 s4 wr => ∃ (k q c' : Nat) (A' : Option Addr), s4 = .int .i64 (k : Int) ∧ s3 = .slice A' q c' ∧ n - k = m ∧ k ≤ n ∧ q ≤ 4 * k ∧ Hid ((enc (l.take k)).length = q) ∧ Hid (wr.ownsRow w.heap.size 5 1 (.slice A' q c') q (cl .u8 (enc (l.take k)))) ∧ Hid (Below w.heap.size w wr))
  case atStart => exact ⟨0, 0, 0, none, rfl, rfl, rfl, Nat.zero_le _, Nat.le_refl _, Lib.hid rfl, Lib.hid (World.ownsRow_nil _ _ _ _), Lib.hid (Below.refl _ _)⟩
  case round =>
    obtain ⟨k, q, c', A', rfl, rfl, rfl, hk, hq, HQ, HO, HB⟩ := hrel
    by_cases hlt : k < n
    · have hltz : (k : Int) < (n : Int) := by omega
      have hk' : k < l.length := by rw [HN.out]; exact hlt
      obtain ⟨r, hr⟩ : ∃ r, l[k]'hk' = r := ⟨_, rfl⟩
      obtain ⟨g0, o0, rfl, hb0, hcc⟩ := (HR.out.below HB.out).at_ (by simp; omega)
      have c0 : wr.cell? ⟨g0, o0 + k, none⟩ = some (.int .i32 r) := by rw [hcc k (by simp; omega), cl_get _ _ _ hk', hr]
      have HT : Hid (enc (l.take (k + 1)) = enc (l.take k) ++ b1 (fixR r)) := Lib.hid (by rw [enc_take_succ l k hk', hr]; rfl)
      have hfr := fix_range r
      have hbl := b1_len (fixR r)
      have HSC := Lib.hid (fun W => RScalar_any r W)
      have hle : w.heap.size ≤ wr.heap.size := HB.out.size
      obtain ⟨f, hf⟩ : ∃ f, Utf.sca r = f := ⟨_, rfl⟩
      rw [hf] at HSC
      have HF : Hid (fixR r = if f = true then r else 65533) := Lib.hid (by rw [← hf]; rfl)
      clear hcc hr hk' hf
      cases f with
      | true =>
        have e1 : fixR r = r := by rw [HF.out]; rfl
        rw [e1] at HT hfr hbl
        have HBY := Lib.hid (fun W => RBytes_any r W hfr.1 hfr.2)
        unfold BytesR at HBY
        obtain ⟨B1, hB1⟩ : ∃ B1, b1 r = B1 := ⟨_, rfl⟩
        rw [hB1] at HT HBY hbl
        obtain ⟨p, hp⟩ : ∃ p, B1.length = p := ⟨_, rfl⟩
        rw [hp] at HBY hbl
        have HP := Lib.hid hp
        clear e1 hB1 hp HF
        go_wp2_with (first
          | (go_at_call 72; refine (HSC.out _).mono ?_; rintro e w1 ⟨rfl, rfl⟩)
          | (go_at_call 73; refine (HBY.out _).mono ?_; rintro e w2 ⟨A2, c2, rfl, hr2, hB2⟩)
          | (at_builtin; refine wpList_appBR w.heap.size _ rfl _ _ rfl (.slice A' q c') q (q + p) (enc (l.take k)) B1 rfl (own_below HO.out hB2) (Nat.le_trans hle hB2.size) A2 p c2 rfl HP.out hr2 rfl (by omega) ?_; intro A4 c4 w4 hO4 hB4)
          | fail)
        go_roundg (n - (k + 1))
        case measure => omega
        case rel => exact ⟨k + 1, q + p, c4, A4, by go_num, rfl, rfl, by omega, by omega, Lib.hid (by rw [HT.out, List.length_append, HQ.out, HP.out]), Lib.hid (by rw [HT.out]; exact hO4), Lib.hid ((HB.out.trans (hB2.mono hle)).trans hB4)⟩
      | false =>
        have e1 : fixR r = 65533 := by rw [HF.out]; rfl
        rw [e1] at HT hfr hbl
        have HBY := Lib.hid (fun W => RBytes_any 65533 W hfr.1 hfr.2)
        unfold BytesR at HBY
        obtain ⟨B1, hB1⟩ : ∃ B1, b1 65533 = B1 := ⟨_, rfl⟩
        rw [hB1] at HT HBY hbl
        obtain ⟨p, hp⟩ : ∃ p, B1.length = p := ⟨_, rfl⟩
        rw [hp] at HBY hbl
        have HP := Lib.hid hp
        clear e1 hB1 hp HF
        go_wp2_with (first
          | (go_at_call 72; refine (HSC.out _).mono ?_; rintro e w1 ⟨rfl, rfl⟩)
          | (go_at_call 73; refine (HBY.out _).mono ?_; rintro e w2 ⟨A2, c2, rfl, hr2, hB2⟩)
          | (at_builtin; refine wpList_appBR w.heap.size _ rfl _ _ rfl (.slice A' q c') q (q + p) (enc (l.take k)) B1 rfl (own_below HO.out hB2) (Nat.le_trans hle hB2.size) A2 p c2 rfl HP.out hr2 rfl (by omega) ?_; intro A4 c4 w4 hO4 hB4)
          | fail)
        go_roundg (n - (k + 1))
        case measure => omega
        case rel => exact ⟨k + 1, q + p, c4, A4, by go_num, rfl, rfl, by omega, by omega, Lib.hid (by rw [HT.out, List.length_append, HQ.out, HP.out]), Lib.hid (by rw [HT.out]; exact hO4), Lib.hid ((HB.out.trans (hB2.mono hle)).trans hB4)⟩
    · obtain rfl : k = n := by omega
      have hltz : ¬ (k : Int) < (k : Int) := by omega
      have HE : Hid (l.take k = l) := Lib.hid (List.take_of_length_le (by rw [HN.out]; exact Nat.le_refl _))
      rw [HE.out] at HQ HO
      clear HE hlt
      have hout : OwnBytes (enc l) w (.returned (.slice A' q c')) wr := by
        have h1 := HQ.out
        subst h1
        exact ⟨A', c', rfl, HO.out, HB.out⟩
      have HOUT := Lib.hid hout
      clear hout
      go_wp2_with fail
      go_ret
      exact HOUT.out
theorem str_lit {x : ByteArray} (t : List UInt8) : (x.toList == t) = decide (dl x = t) := by
  rw [ByteArray.toList_eq]
  show (dl x == t) = _
  rw [Bool.eq_iff_iff, beq_iff_eq, decide_eq_true_iff]
/-- what one knows of a scheme's port -/
def prtN (l : List UInt8) : Int := if l = [102, 116, 112] then 21 else if l = [104, 116, 116, 112] then 80 else if l = [119, 115] then 80 else if l = [104, 116, 116, 112, 115] then 443 else if l = [119, 115, 115] then 443 else if l = [102, 105, 108, 101] then -1 else -2
theorem prtN_spc (l : List UInt8) : (prtN l != -2) = spcL l := by
  unfold prtN spcL
  by_cases h1 : l = [102, 116, 112]
  · subst h1; decide
  by_cases h2 : l = [104, 116, 116, 112]
  · subst h2; decide
  by_cases h3 : l = [119, 115]
  · subst h3; decide
  by_cases h4 : l = [104, 116, 116, 112, 115]
  · subst h4; decide
  by_cases h5 : l = [119, 115, 115]
  · subst h5; decide
  by_cases h6 : l = [102, 105, 108, 101]
  · subst h6; decide
  rw [if_neg h1, if_neg h2, if_neg h3, if_neg h4, if_neg h5, if_neg h6, decide_eq_false h1, decide_eq_false h2, decide_eq_false h3, decide_eq_false h4, decide_eq_false h5, decide_eq_false h6]
  rfl
set_option maxHeartbeats 2000000 in
theorem port_any (s : ByteArray) (w : World) : Calls Tryd.prog 56 #[.string s] w (fun e w' => e = .returned (.int .i64 (prtN (dl s))) ∧ w = w') := by
  have q1 := str_lit (x := s) [102, 116, 112]
  have q2 := str_lit (x := s) [104, 116, 116, 112]
  have q3 := str_lit (x := s) [119, 115]
  have q4 := str_lit (x := s) [104, 116, 116, 112, 115]
  have q5 := str_lit (x := s) [119, 115, 115]
  have q6 := str_lit (x := s) [102, 105, 108, 101]
  obtain ⟨q, hq⟩ : ∃ q, prtN (dl s) = q := ⟨_, rfl⟩
  rw [hq]
  unfold prtN at hq
  by_cases h1 : dl s = [102, 116, 112]
  · rw [decide_eq_true h1] at q1
    have HE : Hid (q = 21) := Lib.hid (by rw [← hq, if_pos h1])
    clear hq h1 q2 q3 q4 q5 q6
    go_enter Tryd.func56, Tryd.ntmps56
    go_wp2_with fail
    go_ret
    exact ⟨by rw [HE.out]; rfl, rfl⟩
  rw [decide_eq_false h1] at q1
  by_cases h2 : dl s = [104, 116, 116, 112]
  · rw [decide_eq_true h2] at q2
    have HE : Hid (q = 80) := Lib.hid (by rw [← hq, if_neg h1, if_pos h2])
    clear hq h2 q3 q4 q5 q6
    go_enter Tryd.func56, Tryd.ntmps56
    go_wp2_with fail
    go_ret
    exact ⟨by rw [HE.out]; rfl, rfl⟩
  rw [decide_eq_false h2] at q2
  by_cases h3 : dl s = [119, 115]
  · rw [decide_eq_true h3] at q3
    have HE : Hid (q = 80) := Lib.hid (by rw [← hq, if_neg h1, if_neg h2, if_pos h3])
    clear hq h3 q4 q5 q6
    go_enter Tryd.func56, Tryd.ntmps56
    go_wp2_with fail
    go_ret
    exact ⟨by rw [HE.out]; rfl, rfl⟩
  rw [decide_eq_false h3] at q3
  by_cases h4 : dl s = [104, 116, 116, 112, 115]
  · rw [decide_eq_true h4] at q4
    have HE : Hid (q = 443) := Lib.hid (by rw [← hq, if_neg h1, if_neg h2, if_neg h3, if_pos h4])
    clear hq h4 q5 q6
    go_enter Tryd.func56, Tryd.ntmps56
    go_wp2_with fail
    go_ret
    exact ⟨by rw [HE.out]; rfl, rfl⟩
  rw [decide_eq_false h4] at q4
  by_cases h5 : dl s = [119, 115, 115]
  · rw [decide_eq_true h5] at q5
    have HE : Hid (q = 443) := Lib.hid (by rw [← hq, if_neg h1, if_neg h2, if_neg h3, if_neg h4, if_pos h5])
    clear hq h5 q6
    go_enter Tryd.func56, Tryd.ntmps56
    go_wp2_with fail
    go_ret
    exact ⟨by rw [HE.out]; rfl, rfl⟩
  rw [decide_eq_false h5] at q5
  by_cases h6 : dl s = [102, 105, 108, 101]
  · rw [decide_eq_true h6] at q6
    have HE : Hid (q = -1) := Lib.hid (by rw [← hq, if_neg h1, if_neg h2, if_neg h3, if_neg h4, if_neg h5, if_pos h6])
    clear hq h6
    go_enter Tryd.func56, Tryd.ntmps56
    go_wp2_with fail
    go_ret
    exact ⟨by rw [HE.out]; rfl, rfl⟩
  rw [decide_eq_false h6] at q6
  have HE : Hid (q = -2) := Lib.hid (by rw [← hq, if_neg h1, if_neg h2, if_neg h3, if_neg h4, if_neg h5, if_neg h6])
  clear hq h1 h2 h3 h4 h5 h6
  go_enter Tryd.func56, Tryd.ntmps56
  go_wp2_with fail
  go_ret
  exact ⟨by rw [HE.out]; rfl, rfl⟩
set_option maxHeartbeats 1000000 in
theorem RSpecial_any (s : ByteArray) (w : World) : Calls Tryd.prog 37 #[.string s] w (fun e w' => e = .returned (.bool (spc s)) ∧ w = w') := by
  have HP := Lib.hid (port_any s w)
  have HE : Hid (spc s = (prtN (dl s) != -2)) := Lib.hid (prtN_spc _).symm
  rw [HE.out]
  obtain ⟨x, hx⟩ : ∃ x, prtN (dl s) = x := ⟨_, rfl⟩
  rw [hx] at HP ⊢
  clear hx HE
  go_enter Tryd.func37, Tryd.ntmps37
  go_wp2_with (first | (go_at_call 56; refine HP.out.mono ?_; rintro e w1 ⟨rfl, rfl⟩) | fail)
  go_ret
  exact ⟨rfl, rfl⟩
end Go.Proofs.YtjkfppgekepbeaaDoor.Pth
