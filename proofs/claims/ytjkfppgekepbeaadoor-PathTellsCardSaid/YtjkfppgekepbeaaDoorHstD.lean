/-
  pct: Encode, with the set of controls.
-/
import Derived.Test.YtjkfppgekepbeaaDoorHstC
import Derived.Test.YtjkfppgekepbeaaDoorUtfMath2
namespace Go.Proofs.YtjkfppgekepbeaaDoor.Hst
set_option maxRecDepth 100000
open Go.RowKit Utf Ut

theorem pOne_len (r : Int) : (pOne r).length ≤ 12 := by
  unfold pOne
  split
  · rw [cds_len]; have := (encOne_len r).2; omega
  · simp
theorem penc_take {l : List Int} {k : Nat} {r : Int} (h : l[k]? = some r) : penc (l.take (k + 1)) = penc (l.take k) ++ pOne r := by
  rw [List.take_add_one, h]
  simp [penc]
theorem penc_len (l : List Int) : (penc l).length ≤ 12 * l.length := by
  induction l with
  | nil => simp [penc]
  | cons a t ih =>
    rw [penc, List.flatMap_cons, List.length_append, List.length_cons]
    have := pOne_len a
    rw [penc] at ih
    omega
/-- what is told of code points encoded -/
def EncR (l : List Int) (w : World) (e : Ending) (w' : World) : Prop := e = .returned (.tuple #[.string (strOfNums (penc l)), .int .i64 0]) ∧ Below w.heap.size w w'
set_option maxHeartbeats 8000000 in
theorem PEncode_any (l : List Int) (A : Option Addr) (n c : Nat) (w : World) (hn : l.length = n) (hl : n ≤ 1000) (hr : Row w w.heap.size A (cl .i32 l)) : Calls Tryd.prog 25 #[.int .u8 1, .slice A n c] w (EncR l w) := by
  have HK := Lib.hid (fun W => known1 W)
  have HN := Lib.hid hn
  have HR := Lib.hid hr
  obtain ⟨i0, hi, hz0, hz1, hz2⟩ := info_split info_u8
  have HZ := Lib.hid hz2
  clear hn hr
  go_enter Tryd.func25, Tryd.ntmps25
  go_wp2_with (first | (go_at_call 41; refine (HK.out _).mono ?_; rintro e w1 ⟨rfl, rfl⟩) | (at_make; refine wpList_make_own _ rfl _ _ 40 rfl w.heap.size 5 i0 _ 1 Tryd.underlying40 hi hz0 hz1 .i64 .i64 _ n rfl rfl rfl (by rw [HZ.out]; omega) (by unfold maxLen; omega) (Nat.le_refl _) ?_; intro w1 hown1 hgrow1) | fail)
  have hB1 : Below w.heap.size w w1 := (Below.refl _ _).grown hgrow1 (Nat.le_refl _) (fun j e => by cases e)
  go_loopg [6, 17] n (fun m s6 s17 wr => ∃ (k q c' : Nat) (A' : Option Addr), s17 = .int .i64 (k : Int) ∧ s6 = .slice A' q c' ∧ n - k = m ∧ k ≤ n ∧ q ≤ 12 * k ∧ Hid ((penc (l.take k)).length = q) ∧ Hid (wr.ownsRow w.heap.size 5 1 (.slice A' q c') q (cl .u8 (penc (l.take k)))) ∧ Hid (Below w.heap.size w wr))
  case atStart => exact ⟨0, 0, n, _, rfl, rfl, rfl, Nat.zero_le _, Nat.le_refl _, Lib.hid rfl, Lib.hid hown1, Lib.hid hB1⟩
  case round =>
    clear hown1 hB1 hgrow1
    obtain ⟨k, q, c', A', rfl, rfl, rfl, hk, hq, HQ, HO, HB⟩ := hrel
    by_cases hlt : k < n
    · have hltz : (k : Int) < (n : Int) := by omega
      have hk' : k < l.length := by rw [HN.out]; exact hlt
      obtain ⟨r, hr⟩ : ∃ r, l[k]? = some r := ⟨_, List.getElem?_eq_getElem hk'⟩
      obtain ⟨g0, o0, rfl, hb0, hcc⟩ := (HR.out.below HB.out).at_ (by simp; omega)
      have c0 : wr.cell? ⟨g0, o0 + k, none⟩ = some (.int .i32 r) := by rw [hcc k (by simp; omega)]; simp [cl, hr]
      have HT := Lib.hid (penc_take hr)
      have HIN := Lib.hid (fun W => In1 r W)
      have HPL := Lib.hid (pOne_len r)
      have hle : w.heap.size ≤ wr.heap.size := HB.out.size
      clear hr hcc hk'
      cases hct : ctl r with
      | true =>
        rw [hct] at HIN
        have HP1 : Hid (pOne r = cds (encOne r)) := Lib.hid (by unfold pOne; rw [if_pos hct])
        have HEN := Lib.hid (fun W A c (h : Row W W.heap.size A (cl .i32 [r])) => Encode_any [r] A 1 c W rfl (by decide) h)
        have HEL := Lib.hid (encOne_len r)
        have HEB := Lib.hid (encOne_byt r)
        obtain ⟨m, hm⟩ : ∃ m, (encOne r).length = m := ⟨_, rfl⟩
        have hm4 : m ≤ 4 := by rw [← hm]; exact HEL.out.2
        have HM := Lib.hid hm
        unfold MadeBytes at HEN
        rw [enc_one] at HEN
        rw [hm] at HEN
        clear hct hm
        have HO1 := Lib.hid (HO.out.alloc (.cells #[.int .i32 r] 21))
        go_upto_region 7 with fail
        go_upto_region 8 with (first | (go_at_call 42; refine (HIN.out _).mono ?_; rintro e w2 ⟨rfl, rfl⟩) | fail)
        have HQ2 : Hid ((penc (l.take (k + 1))).length = q + 3 * m) := Lib.hid (by rw [HT.out, HP1.out, List.length_append, cds_len, HM.out, HQ.out])
        go_wp2_with (first
          | (go_at_call 44; refine (HEN.out _ _ _ (by rw [World.size_alloc]; exact row_new _ _ 21 [.int .i32 r] rfl)).mono ?_; rintro e w3 ⟨v3, rfl, ho3, hb3⟩; obtain ⟨A3, c3, rfl, hc3, hr3⟩ := own_form ho3; have hs3 := hb3.size; rw [World.size_alloc] at hs3)
          | (go_at_call 43; refine (addCodes_any w.heap.size A' q c' (penc (l.take k)) A3 m c3 (encOne r) w3 (by omega) (by omega) (own_below HO1.out hb3) HM.out (by omega) HEB.out hr3 (fun b o f hA e => by
              have h1 := (HO.out.lt b e).2
              have h2 := (ho3.lt b (by rw [hA]; rfl)).1
              rw [World.size_alloc] at h2
              omega) (fun b o f hA => (ho3.lt b (by rw [hA]; rfl)).2)).mono ?_; rintro e w4 ⟨A4, c4, rfl, hO4, hB4⟩)
          | fail)
        go_roundg (n - (k + 1))
        case measure => omega
        case rel => exact ⟨k + 1, q + 3 * m, c4, A4, by go_num, rfl, rfl, by omega, by omega, HQ2, Lib.hid (by rw [HT.out, HP1.out]; exact hO4), Lib.hid (HB.out.trans ((((Below.refl _ _).alloc hle _).trans (hb3.mono (by rw [World.size_alloc]; omega))).trans hB4))⟩
      | false =>
        rw [hct] at HIN
        have HP1 : Hid (pOne r = [r]) := Lib.hid (by unfold pOne; rw [if_neg (by rw [hct]; decide)])
        have hrr : 32 ≤ r ∧ r ≤ 126 := by
          have := of_decide_eq_false hct
          omega
        have hw8 : IntKind.u8.wrap r = r := by simp [IntKind.wrap, IntKind.signed, IntKind.bits]; omega
        have HQ2 : Hid ((penc (l.take (k + 1))).length = q + 1) := Lib.hid (by rw [HT.out, HP1.out, List.length_append, HQ.out]; rfl)
        have HO1 := HO.out
        clear hct
        go_upto_region 7 with fail
        go_wp2_with (first
          | (go_at_call 42; refine (HIN.out _).mono ?_; rintro e w2 ⟨rfl, rfl⟩)
          | (at_builtin; refine wpList_appB w.heap.size _ rfl _ _ rfl (.slice A' q c') q (q + 1) (penc (l.take k)) r rfl HO1 hle rfl rfl (by omega) ?_; intro A4 c4 w4 hO4 hB4)
          | fail)
        go_roundg (n - (k + 1))
        case measure => omega
        case rel => exact ⟨k + 1, q + 1, c4, A4, by go_num, rfl, rfl, by omega, by omega, HQ2, Lib.hid (by rw [HT.out, HP1.out]; exact hO4), Lib.hid (HB.out.trans hB4)⟩
    · obtain rfl : k = n := by omega
      have hltz : ¬ (k : Int) < (k : Int) := by omega
      have HE : Hid (l.take k = l) := Lib.hid (List.take_of_length_le (by rw [HN.out]; exact Nat.le_refl _))
      have hcv := conv_row (c := c') HQ.out (Row.of_own HO.out)
      rw [HE.out] at hcv
      clear hlt
      go_wp2_with fail
      go_ret2
      exact ⟨rfl, HB.out⟩
end Go.Proofs.YtjkfppgekepbeaaDoor.Hst
