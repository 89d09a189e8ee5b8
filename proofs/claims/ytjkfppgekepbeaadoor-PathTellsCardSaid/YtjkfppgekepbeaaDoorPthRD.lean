/-
  fasciaref03.Encode; fasciaref16.Shorten.
-/
import Derived.Test.YtjkfppgekepbeaaDoorPthRC
namespace Go.Proofs.YtjkfppgekepbeaaDoor.Pth
set_option maxRecDepth 100000
open Go.RowKit Go.Shelf Utf Ut Hst

theorem HRlt {w : World} {B : Nat} {e : TypeId} {A : Option Addr} {n c : Nat} {xs : List Value} (h : w.ownsRow B e 1 (.slice A n c) n xs) : Row w w.heap.size A xs ∧ (∀ b o f, A = some ⟨b, o, f⟩ → B ≤ b) ∧ (∀ b o f, A = some ⟨b, o, f⟩ → b < w.heap.size) :=
  ⟨Row.of_own h, fun b _ _ hA => (h.lt b (by rw [hA]; rfl)).1, fun b _ _ hA => (h.lt b (by rw [hA]; rfl)).2⟩
set_option maxHeartbeats 8000000 in
theorem RPct_any (l : List Int) (A : Option Addr) (n c : Nat) (w : World) (hn : l.length = n) (hc : n ≤ c) (hl : n ≤ 20000) (hr : Row w w.heap.size A (cl .i32 l)) : Calls Tryd.prog 38 #[.int .u8 5, .slice A n c] w (EncP l w) := by
  have HN := Lib.hid hn
  have HR := Lib.hid hr
  clear hn hr
  go_enter Tryd.func38, Tryd.ntmps38
  go_wp2_with fail
  go_loopg [6, 7] n (fun m s6 s7 wr => ∃ (k q c' : Nat) (A' : Option Addr), s7 = .int .i64 (k : Int) ∧ s6 = .slice A' q c' ∧ n - k = m ∧ k ≤ n ∧ q ≤ 12 * k ∧ Hid ((pe (l.take k)).length = q) ∧ Hid (wr.ownsRow w.heap.size 5 1 (.slice A' q c') q (cl .u8 (pe (l.take k)))) ∧ Hid (Below w.heap.size w wr))
  case atStart => exact ⟨0, 0, 0, none, rfl, rfl, rfl, Nat.zero_le _, Nat.le_refl _, Lib.hid rfl, Lib.hid (World.ownsRow_nil _ _ _ _), Lib.hid (Below.refl _ _)⟩
  case round =>
    obtain ⟨k, q, c', A', rfl, rfl, rfl, hk, hq, HQ, HO, HB⟩ := hrel
    by_cases hlt : k < n
    · have hltz : (k : Int) < (n : Int) := by omega
      have hk' : k < l.length := by rw [HN.out]; exact hlt
      obtain ⟨r, hr⟩ : ∃ r, l[k]? = some r := ⟨_, List.getElem?_eq_getElem hk'⟩
      have hle : w.heap.size ≤ wr.heap.size := HB.out.size
      obtain ⟨g0, o0, rfl, hb0, hcc⟩ := (HR.out.below HB.out).at_ (by simp; omega)
      have c0 : wr.cell? ⟨g0, o0 + k, none⟩ = some (.int .i32 r) := by rw [hcc k (by simp; omega)]; simp [cl, hr]
      have HT := Lib.hid (pe_take hr)
      have HIN := Lib.hid (fun W => RIn_any r W)
      have HPL := Lib.hid (pP_len r)
      cases hct : inP r with
      | false =>
        rw [hct] at HIN
        have HP1 : Hid (pP r = [r]) := Lib.hid (by unfold pP; rw [if_neg (by rw [hct]; decide)])
        have hrr : 32 ≤ r ∧ r ≤ 126 := inP_no hct
        have hw8 : IntKind.u8.wrap r = r := by simp [IntKind.wrap, IntKind.signed, IntKind.bits]; omega
        have HQ2 : Hid ((pe (l.take (k + 1))).length = q + 1) := Lib.hid (by rw [HT.out, HP1.out, List.length_append, HQ.out]; rfl)
        clear hct hr hcc hk'
        go_wp2_with (first
          | (go_at_call 57; refine (HIN.out _).mono ?_; rintro e w2 ⟨rfl, rfl⟩)
          | (at_builtin; refine wpList_appB w.heap.size _ rfl _ _ rfl (.slice A' q c') q (q + 1) (pe (l.take k)) r rfl HO.out hle rfl rfl (by omega) ?_; intro A4 c4 w4 hO4 hB4)
          | fail)
        go_roundg (n - (k + 1))
        case measure => omega
        case rel => exact ⟨k + 1, q + 1, c4, A4, by go_num, rfl, rfl, by omega, by omega, HQ2, Lib.hid (by rw [HT.out, HP1.out]; exact hO4), Lib.hid (HB.out.trans hB4)⟩
      | true =>
        rw [hct] at HIN
        have HP1 : Hid (pP r = cds (encOne r)) := Lib.hid (by unfold pP; rw [if_pos hct])
        have hcut : cutL l k (k + 1) = [r] := by
          unfold cutL
          rw [List.getElem?_eq_getElem hk'] at hr
          rw [List.drop_eq_getElem_cons hk', show k + 1 - k = 1 by omega, List.take_succ_cons, List.take_zero, Option.some.inj hr]
        have hrow := row_cut ((HR.out.below HB.out).mono hle) (f := k) (i := k + 1) (c := c) (by omega) (by rw [HN.out]; omega) (by rw [HN.out]; exact hc)
        rw [hcut] at hrow
        have hsl := fun W => sl_lh (some ⟨g0, o0, none⟩) n c k (k + 1) (by omega) (by omega) W
        rw [show k + 1 - k = 1 by omega, show ((k + 1 : Nat) : Int) = (k : Int) + 1 from rfl] at hsl
        obtain ⟨A5, hA5⟩ : ∃ A5, subA (some ⟨g0, o0, none⟩) k c = A5 := ⟨_, rfl⟩
        rw [hA5] at hsl hrow
        have HEN := Lib.hid (fun W (h : Below wr.heap.size wr W) => REncode_any [r] A5 1 (c - k) W rfl (by decide) ((hrow.below h).mono h.size))
        have HEL := Lib.hid (encOne_len r)
        have HEB := Lib.hid (encOne_byt r)
        unfold OwnBytes at HEN
        rw [enc_one] at HEN
        obtain ⟨E, hE⟩ : ∃ E, encOne r = E := ⟨_, rfl⟩
        rw [hE] at HEN HEL HEB HP1
        obtain ⟨p, hp⟩ : ∃ p, E.length = p := ⟨_, rfl⟩
        rw [hp] at HEN HEL
        have hm4 : p ≤ 4 := HEL.out.2
        have HP := Lib.hid hp
        clear hct hr hcc hk' hcut hrow hA5 hE hp
        go_wp2_with (first
          | (go_at_call 57; refine (HIN.out _).mono ?_; rintro e w2 ⟨rfl, rfl⟩)
          | (go_at_call 58; refine (HEN.out _ (Below.refl _ _)).mono ?_; rintro e w3 ⟨A3, c3, rfl, hO3, hB3⟩)
          | fail)
        have hO3lt := HRlt hO3
        obtain ⟨hO3r, hO3b, hO3s⟩ := hO3lt
        have HAP0 : Hid (AP (.slice A' q c') A3) := Lib.hid (fun b o f hA e => by
          have h1 := (HO.out.lt b e).2
          have h2 := hO3b b o f hA
          omega)
        have HO0 := Lib.hid (own_below HO.out hB3)
        have HR0 := Lib.hid hO3r
        have HB0 := Lib.hid (HB.out.trans (hB3.mono hle))
        clear hO3 hB3 hO3r hO3b hO3s HEN hsl
        go_loopg [6, 9] p (fun g s6 s9 wx => ∃ (j q2 c2 : Nat) (A2 : Option Addr), s9 = .int .i64 (j : Int) ∧ s6 = .slice A2 q2 c2 ∧ p - j = g ∧ j ≤ p ∧ q2 = q + 3 * j ∧ Hid (wx.ownsRow w.heap.size 5 1 (.slice A2 q2 c2) q2 (cl .u8 (pe (l.take k) ++ cds (E.take j)))) ∧ Hid (Below w.heap.size w wx) ∧ Hid (Row wx wx.heap.size A3 (cl .u8 E) ∧ AP (.slice A2 q2 c2) A3))
        case atStart => exact ⟨0, q, c', A', rfl, rfl, rfl, Nat.zero_le _, rfl, by simpa [cds] using HO0, HB0, Lib.hid ⟨HR0.out, HAP0.out⟩⟩
        case round =>
          clear HO0 HR0 HAP0 HB0
          obtain ⟨j, q2, c2, A2, rfl, rfl, rfl, hj, hq2, HO2, HB2, HR2⟩ := hrel
          by_cases hjt : j < p
          · have hjz : (j : Int) < (p : Int) := by omega
            have hj' : j < E.length := by rw [HP.out]; exact hjt
            obtain ⟨b, hb⟩ : ∃ b, E[j]? = some b := ⟨_, List.getElem?_eq_getElem hj'⟩
            obtain ⟨g1, o1, rfl, hb1, hcc⟩ := HR2.out.1.at_ (by simp; omega)
            have c1 : wr.cell? ⟨g1, o1 + j, none⟩ = some (.int .u8 b) := by rw [hcc j (by simp; omega)]; simp [cl, hb]
            have hbb := HEB.out b (List.mem_of_getElem? hb)
            obtain ⟨bn, rfl⟩ := Int.eq_ofNat_of_zero_le hbb.1
            have hbn : bn < 256 := by omega
            have HS := Lib.hid (cds_snoc hb)
            obtain ⟨hi, hhi⟩ : ∃ h, bn / 16 = h := ⟨_, rfl⟩
            obtain ⟨lo, hlo⟩ : ∃ h, bn % 16 = h := ⟨_, rfl⟩
            have h1 : (bn : Int) / 16 = (hi : Int) := by omega
            have h2 : (bn : Int) % 16 = (lo : Int) := by omega
            have h1' : (bn : Int).tdiv 16 = (hi : Int) := by rw [Int.tdiv_eq_ediv_of_nonneg (by omega)]; exact h1
            have h2' : (bn : Int).tmod 16 = (lo : Int) := by rw [Int.tmod_eq_emod_of_nonneg (by omega)]; exact h2
            have hwb : IntKind.i64.wrap (bn : Int) = (bn : Int) := by simp [IntKind.wrap, IntKind.signed, IntKind.bits]; omega
            have HW1 : Hid (IntKind.i64.wrap ((IntKind.i64.wrap (bn : Int)).tdiv 16) = (hi : Int)) := Lib.hid (by rw [hwb, h1']; simp [IntKind.wrap, IntKind.signed, IntKind.bits]; omega)
            have HW2 : Hid ((IntKind.i64.wrap (bn : Int)).tmod 16 = (lo : Int)) := Lib.hid (by rw [hwb, h2'])
            clear hwb
            have hh16 : hi < 16 := by omega
            have hl16 : lo < 16 := by omega
            have HS2 : Hid (cds (E.take (j + 1)) = cds (E.take j) ++ [37, dgU (hi : Int), dgU (lo : Int)]) := Lib.hid (by rw [HS.out, cd3, h1, h2])
            have HX1 := Lib.hid (fun W => hex_any hi hh16 W)
            have HX2 := Lib.hid (fun W => hex_any lo hl16 W)
            obtain ⟨d1, hd1⟩ : ∃ d, dgU (hi : Int) = d := ⟨_, rfl⟩
            obtain ⟨d2, hd2⟩ : ∃ d, dgU (lo : Int) = d := ⟨_, rfl⟩
            rw [hd1] at HX1 HS2
            rw [hd2] at HX2 HS2
            have HS3 : Hid (pe (l.take k) ++ cds (E.take (j + 1)) = (pe (l.take k) ++ cds (E.take j)) ++ [37, d1, d2]) := Lib.hid (by rw [HS2.out, List.append_assoc])
            have HO1 := HO2.out
            have hle2 : w.heap.size ≤ wr.heap.size := HB2.out.size
            have hq1 : q2 + 3 ≤ 11000000 := by omega
            have HQK : Hid (q2 + 3 = q + 3 * (j + 1)) := Lib.hid (by omega)
            have b2 : (0 : Int) ≤ (bn : Int) ∧ (bn : Int) < 256 := by omega
            clear hb hcc hhi hlo HS HS2 hj' hd1 hd2 hq2 h1 h2 h1' h2'
            have HRL : Hid (∀ O, Row (wr.alloc O).drew (wr.alloc O).drew.heap.size (some ⟨g1, o1, none⟩) (cl .u8 E)) := Lib.hid (fun O => by
              have h := row_grownB (v := .slice none 0 0) (w' := wr.alloc O) HR2.out.1 (World.grownBy_alloc wr O none) (fun _ _ _ _ e => by cases e)
              exact h)
            have HLL : Hid (∀ O : Obj, ∀ b o f, (some (⟨g1, o1, none⟩ : Addr)) = some ⟨b, o, f⟩ → b < (wr.alloc O).drew.heap.size) := Lib.hid (fun O b o f e => by
              injection e with e
              injection e with e1 e2 e3
              subst e1
              have : g1 < (wr.alloc O).heap.size := by rw [World.size_alloc]; omega
              exact this)
            go_upto_region 13 with fail
            go_region_law (first
              | (go_simp; go_at_call 59; rw [HW1.out]; (with_reducible refine (HX1.out _).mono ?_); rintro e wy ⟨rfl, rfl⟩)
              | (go_simp; go_at_call 59; rw [HW2.out]; (with_reducible refine (HX2.out _).mono ?_); rintro e wy ⟨rfl, rfl⟩)
              | (refine step_appB w.heap.size _ rfl (.tmp 49) (.tmp 64) rfl (.slice A2 q2 c2) q2 (pe (l.take k) ++ cds (E.take j)) rfl (own_drew (HO1.alloc _)) (size_lit3 _ hle2) wr.heap.size 0 3 3 [37, d1, d2] rfl rfl (row_lit3 _ _ _ _) (q2 + 3) rfl hq1 (some ⟨g1, o1, none⟩) E (HRL.out _) HR2.out.2 (HLL.out _) ?_; intro A4 c4 w4 hO4 hB4 hR4 hP4)
              | fail)
            all_goals
              go_wp2_with fail
              go_roundg (p - (j + 1))
              case measure => omega
              case rel => exact ⟨j + 1, q2 + 3, c4, A4, by go_num, rfl, rfl, by omega, HQK.out, Lib.hid (by rw [HS3.out]; exact hO4), Lib.hid (HB2.out.trans (((Below.refl _ wr).alloc hle2 _).drew.trans hB4)), Lib.hid ⟨hR4, hP4⟩⟩
          · obtain rfl : j = p := by omega
            have hjz : ¬ (j : Int) < (j : Int) := by omega
            have HE : Hid (E.take j = E) := Lib.hid (List.take_of_length_le (by rw [HP.out]; exact Nat.le_refl _))
            rw [HE.out] at HO2
            have HQ2 : Hid ((pe (l.take (k + 1))).length = q2) := Lib.hid (by rw [HT.out, HP1.out, List.length_append, cds_len, HP.out, HQ.out, hq2])
            have hq2b : q2 ≤ 12 * (k + 1) := by omega
            clear HE hjt hq2
            go_wp2_with fail
            go_roundg (n - (k + 1))
            case measure => omega
            case rel => exact ⟨k + 1, q2, c2, A2, by go_num, rfl, rfl, by omega, hq2b, HQ2, Lib.hid (by rw [HT.out, HP1.out]; exact HO2.out), HB2⟩
    · obtain rfl : k = n := by omega
      have hltz : ¬ (k : Int) < (k : Int) := by omega
      have HE : Hid (l.take k = l) := Lib.hid (List.take_of_length_le (by rw [HN.out]; exact Nat.le_refl _))
      have hcv := conv_row (c := c') HQ.out (Row.of_own HO.out)
      rw [HE.out] at hcv
      clear hlt
      go_wp2_with fail
      go_ret2
      exact ⟨rfl, HB.out⟩
end Go.Proofs.YtjkfppgekepbeaaDoor.Pth
