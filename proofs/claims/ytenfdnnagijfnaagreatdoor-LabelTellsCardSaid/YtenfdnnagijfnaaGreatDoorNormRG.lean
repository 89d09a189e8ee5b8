/-
  fasciaref05: NFC.
-/
import Derived.Test.YtenfdnnagijfnaaGreatDoorNormRF
import Derived.Deep.CutBlock
import Derived.Outline
namespace Go.Proofs.YtenfdnnagijfnaaGreatDoor
open Go.RowKit Norm

/-- the document's own test -/
def May (o : List Int) (t : Nat) (cc : Int) : Prop := 0 < t ∧ ∀ j, t ≤ j → j < o.length → ccc o[j]! < cc
set_option maxRecDepth 100000 in
set_option maxHeartbeats 4000000 in
theorem refNFC_any (l : List Int) (A : Option Addr) (cap : Nat) (w : World) (hl : l.length ≤ 1000) (hC : C32 l) (hr : Row w w.heap.size A (cl .i32 l)) :
    Calls Tryz.prog 21 #[.slice A l.length cap] w (MadeV w (nfc l)) := by
  obtain ⟨i0, hi, hz0, hz1, hz2⟩ := info_split info_int32
  have HN := Lib.hid (refNFD_any l A cap w hl hC hr)
  have hnl : (nfd l).length ≤ 5000 := by rw [nfd_len]; have := dec_len l; omega
  obtain ⟨L, hL⟩ : ∃ L, arr [] (dec l) = L := ⟨_, rfl⟩
  have HFO : Hid (Fix L ∧ Ordl L ∧ W2 L) := Lib.hid (by rw [← hL]; exact ⟨arr_fix hC, nfd_ordl hC, arr_w2 (dec_w2 hC)⟩)
  have e : nfd l = L.map (·.1) := by rw [← hL]; rfl
  have e2 : nfc l = (stAt L L.length).out := by rw [← comp_at, ← hL]; rfl
  rw [e, List.length_map] at hnl
  rw [e] at HN
  rw [e2]
  have hN2 : (L.map (·.1)).length = L.length := by simp
  obtain ⟨n, hn⟩ : ∃ n, L.length = n := ⟨_, rfl⟩
  rw [hn] at hN2 hnl ⊢
  have HLN := Lib.hid hn
  obtain ⟨D, hD⟩ : ∃ D, L.map (·.1) = D := ⟨_, rfl⟩
  have HDL := Lib.hid hD
  unfold MadeV at HN
  rw [hD] at hN2 HN
  rw [hN2] at HN
  clear hn hL e e2 hl hC hr hD hN2
  go_enter Tryz.func21, Tryz.ntmps21
  go_wp2_with (first | (go_at_call 20; refine HN.out.mono ?_; rintro e w1 ⟨A1, c1, rfl, ho1, hB1⟩) | fail)
  have hr1 := Row.of_own ho1
  clear HN ho1
  go_loopg [3, 5] n (fun m s3 s5 wr => ∃ (k c : Nat) (A2 : Option Addr), s5 = .int .i64 (k : Int) ∧ m = n - k ∧ k ≤ n ∧ s3 = .slice A2 (stAt L k).out.length c ∧ wr.ownsRow w1.heap.size 21 1 (.slice A2 (stAt L k).out.length c) (stAt L k).out.length (cl .i32 (stAt L k).out) ∧ Below w1.heap.size w1 wr)
  case atStart => exact ⟨0, 0, none, rfl, rfl, Nat.zero_le _, rfl, own_nil32 _ _, Below.refl _ _⟩
  case round =>
    obtain ⟨k, c, A2, rfl, rfl, hk, rfl, hO, hB⟩ := hrel
    by_cases hlt : k < n
    · have hltz : (k : Int) < (n : Int) := by omega
      have hkL : k < L.length := by rw [HLN.out]; exact hlt
      have hinv := stAt_inv HFO.out.2.2 k (by omega)
      have HKA := Lib.hid (K_at HFO.out.1 HFO.out.2.1 k (by omega))
      have HST := Lib.hid (stAt_succ hkL)
      have hx := HFO.out.1 _ (List.getElem_mem hkL)
      have hx32 := HFO.out.2.2 _ (List.getElem_mem hkL)
      have hDk : D[k]? = some (L[k]).1 := by rw [← HDL.out, List.getElem?_map, List.getElem?_eq_getElem hkL]; rfl
      obtain ⟨x, hxx⟩ : ∃ x, L[k] = x := ⟨_, rfl⟩
      rw [hxx] at hx hx32 hDk HST
      obtain ⟨s, hs⟩ : ∃ s, stAt L k = s := ⟨_, rfl⟩
      rw [hs] at hinv HKA HST hO ⊢
      obtain ⟨out, st, last⟩ := s
      obtain ⟨x1, x2⟩ := x
      obtain ⟨_, hx2⟩ := hx
      dsimp only at hx2 hx32 hDk hO hinv ⊢
      obtain rfl : x2 = ccc x1 := hx2
      obtain ⟨i1, _, i3⟩ := hinv
      dsimp only at i1 i3
      obtain ⟨b0, o0, rfl, hb0, hcc⟩ := (hr1.below hB).at_ (by rw [List.length_map, ← HDL.out, List.length_map]; omega)
      have c0 := hcc k (by rw [List.length_map, ← HDL.out, List.length_map]; omega)
      rw [List.getElem?_map, hDk, Option.map_some] at c0
      have HCx := Lib.hid (fun w => refClass_any x1 w hx32)
      have hp := ccc_pos x1
      obtain ⟨cc, hcx⟩ : ∃ cc, ccc x1 = cc := ⟨_, rfl⟩
      rw [hcx] at HCx HST hp
      obtain ⟨N, hNo⟩ : ∃ N, out.length = N := ⟨_, rfl⟩
      have HNO := Lib.hid hNo
      have HXC := Lib.hid hcx
      have HI3 := Lib.hid i3
      have HX32 := Lib.hid hx32
      rw [hNo] at hO i1 ⊢
      clear hcc hxx hs hDk hkL hcx hNo i3 hx32
      go_upto_block 2 with fail
      -- from here
      go_cut [7] from 27 to 38 (fun s7 wx => ∃ (t : Nat) (v : Int), s7 = .int .i64 v ∧ Hid (v = (t : Int) - 1) ∧ t ≤ N ∧ Hid (Back out t ∧ (t = 0 ∨ ccc out[t - 1]! = 0)) ∧ wx.ownsRow w1.heap.size 21 1 (.slice A2 N c) N (cl .i32 out) ∧ Below w1.heap.size w1 wx)
      case first =>
        clear c0 HCx hb0
        go_wp2_with fail
        go_loopg [7] N (fun m s7 wx => ∃ t : Nat, s7 = .int .i64 ((t : Int) - 1) ∧ t = m ∧ t ≤ N ∧ Hid (Back out t) ∧ wx.ownsRow w1.heap.size 21 1 (.slice A2 N c) N (cl .i32 out) ∧ Below w1.heap.size w1 wx)
        case atStart => exact ⟨N, rfl, rfl, Nat.le_refl _, Lib.hid ⟨by rw [HNO.out]; exact Nat.le_refl _, fun j hj hl => by rw [HNO.out] at hl; omega⟩, hO, hB⟩
        case round =>
          clear hO hB
          obtain ⟨t, hs7, rfl, ht, HBK, hO, hB⟩ := hrel
          cases t with
          | zero =>
            rw [show ((0 : Nat) : Int) - 1 = -1 from rfl] at hs7
            subst hs7
            go_wp2_with fail
            go_meet
            exact ⟨0, -1, rfl, Lib.hid rfl, Nat.zero_le _, Lib.hid ⟨HBK.out, .inl rfl⟩, hO, hB⟩
          | succ q =>
            rw [show ((q + 1 : Nat) : Int) - 1 = (q : Int) from by omega] at hs7
            subst hs7
            obtain ⟨g, rfl⟩ := own_at hO (by omega)
            have hqz : (q : Int) < (N : Int) := by omega
            have hq0 : (0 : Int) ≤ (q : Int) := by omega
            have k0 := own_cell hO (q := q) (by omega) (get_some (l := out) (i := q) (by rw [HNO.out]; omega))
            have hy32 := HI3.out _ (get_mem (l := out) (i := q) (by rw [HNO.out]; omega))
            obtain ⟨y, hy⟩ : ∃ y, out[q]! = y := ⟨_, rfl⟩
            rw [hy] at k0 hy32
            have HY := Lib.hid hy
            have HCy := Lib.hid (fun w => refClass_any y w hy32)
            have hpy := ccc_pos y
            obtain ⟨cy, hcy⟩ : ∃ cy, ccc y = cy := ⟨_, rfl⟩
            rw [hcy] at HCy hpy
            have HCY := Lib.hid hcy
            clear hy hcy hy32
            by_cases hz : 0 < cy
            · go_wp2_with (first | (go_at_call 39; refine (HCy.out _).mono ?_; rintro e w2 ⟨rfl, hB2⟩) | fail)
              go_roundg q
              case measure => omega
              case rel =>
                refine ⟨q, by go_num, rfl, by omega, Lib.hid ⟨by have := HBK.out.1; omega, fun j hj hl => ?_⟩, own_below hO hB2, hB.trans (hB2.mono hB.size)⟩
                by_cases hjq : j = q
                · subst hjq
                  rw [HY.out, HCY.out]
                  omega
                · exact HBK.out.2 j (by omega) hl
            · have hz0 : cy = 0 := by omega
              subst hz0
              go_wp2_with (first | (go_at_call 39; refine (HCy.out _).mono ?_; rintro e w2 ⟨rfl, hB2⟩) | fail)
              go_meet
              exact ⟨q + 1, q, rfl, Lib.hid (by omega), by omega, Lib.hid ⟨HBK.out, .inr (by rw [Nat.add_sub_cancel, HY.out]; exact HCY.out)⟩, own_below hO hB2, hB.trans (hB2.mono hB.size)⟩
      case rest =>
        clear hO hB c0 hb0
        obtain ⟨t, v, rfl, HV, htN, HBT, hO, hB⟩ := hcut
        have HMI : Hid (st = (t : Int) - 1 ∧ (St.may ⟨out, st, last⟩ (x1, cc) ↔ May out t cc)) := Lib.hid (may_iff HKA.out (x1, cc) HBT.out.1 HBT.out.2)
        generalize wc = w2 at hO hB ⊢
        have hv1 : v + 1 = (t : Int) := by have := HV.out; omega
        have hwt : IntKind.i64.wrap (t : Int) = (t : Int) := IntWalk.i64_in _ (by omega)
        go_upto_block 4 with fail
        clear hv1 hwt
        go_cut [8, 9] from 43 to 59 (fun s8 s9 wx => (∃ b : Bool, s8 = .bool b ∧ Hid (b = true ↔ May out t cc)) ∧ wx.ownsRow w1.heap.size 21 1 (.slice A2 N c) N (cl .i32 out) ∧ Below w1.heap.size w1 wx)
        case first =>
          clear HMI HST HKA
          go_wp2_with fail
          go_loopg [8, 9] (N - t) (fun m s8 s9 wx => ∃ (b : Bool) (j : Nat), s8 = .bool b ∧ s9 = .int .i64 (j : Int) ∧ m = N - j ∧ t ≤ j ∧ j ≤ N ∧ Hid (b = true → 0 < t ∧ ∀ x, t ≤ x → x < j → ccc out[x]! < cc) ∧ Hid (b = false → ¬ May out t cc) ∧ wx.ownsRow w1.heap.size 21 1 (.slice A2 N c) N (cl .i32 out) ∧ Below w1.heap.size w1 wx)
          case atStart =>
            refine ⟨decide (0 ≤ v), t, by first | rfl | simp, by first | rfl | go_num, rfl, Nat.le_refl _, htN, Lib.hid (fun h => ⟨by have := of_decide_eq_true h; have := HV.out; omega, fun x h1 h2 => by omega⟩), Lib.hid (fun h h2 => ?_), hO, hB⟩
            have := of_decide_eq_false h
            have := h2.1
            have := HV.out
            omega
          case round =>
            clear hO hB
            obtain ⟨b, j, rfl, rfl, rfl, htj, hjN, H1, H2, hO, hB⟩ := hrel
            by_cases hj : j < N
            · have hjz : (j : Int) < (N : Int) := by omega
              cases b with
              | true =>
                obtain ⟨g, rfl⟩ := own_at hO (by omega)
                have hj0 : (0 : Int) ≤ (j : Int) := by omega
                have k0 := own_cell hO (q := j) (by omega) (get_some (l := out) (i := j) (by rw [HNO.out]; omega))
                have hy32 := HI3.out _ (get_mem (l := out) (i := j) (by rw [HNO.out]; omega))
                obtain ⟨y, hy⟩ : ∃ y, out[j]! = y := ⟨_, rfl⟩
                rw [hy] at k0 hy32
                have HY := Lib.hid hy
                have HCy := Lib.hid (fun w => refClass_any y w hy32)
                obtain ⟨cy, hcy⟩ : ∃ cy, ccc y = cy := ⟨_, rfl⟩
                rw [hcy] at HCy
                have HCY := Lib.hid hcy
                clear hy hcy hy32
                go_wp2_with (first
                  | (go_at_call 39; refine (HCy.out _).mono ?_; rintro e w3 ⟨rfl, hB3⟩)
                  | (go_at_call 39; refine (HCx.out _).mono ?_; rintro e w4 ⟨rfl, hB4⟩)
                  | fail)
                go_roundg (N - (j + 1))
                case measure => omega
                case rel =>
                  refine ⟨decide (cy < cc), j + 1, by first | rfl | simp, by go_num, rfl, by omega, by omega, Lib.hid (fun h => ⟨(H1.out (by simp)).1, fun x h1 h2 => ?_⟩), Lib.hid (fun h h2 => ?_), own_below (own_below hO hB3) hB4, (hB.trans (hB3.mono hB.size)).trans (hB4.mono (Nat.le_trans hB.size hB3.size))⟩
                  · by_cases hxj : x = j
                    · subst hxj
                      rw [HY.out, HCY.out]
                      exact of_decide_eq_true h
                    · exact (H1.out (by simp)).2 x h1 (by omega)
                  · have := h2.2 j htj (by rw [HNO.out]; exact hj)
                    rw [HY.out, HCY.out] at this
                    exact of_decide_eq_false h this
              | false =>
                go_wp2_with fail
                go_meet
                exact ⟨⟨false, rfl, Lib.hid ⟨fun h => (by cases h), fun h => absurd h (H2.out (by simp))⟩⟩, hO, hB⟩
            · obtain rfl : j = N := by omega
              have hjz : ¬ ((j : Nat) : Int) < (j : Int) := by omega
              go_wp2_with fail
              go_meet
              refine ⟨⟨b, rfl, Lib.hid ⟨fun h => ⟨(H1.out (by simpa using h)).1, fun x h1 h2 => (H1.out (by simpa using h)).2 x h1 (by rw [HNO.out] at h2; exact h2)⟩, fun h => ?_⟩⟩, hO, hB⟩
              cases b with
              | true => rfl
              | false => exact absurd h (H2.out (by simp))
        case rest =>
          clear hO hB
          obtain ⟨⟨b, rfl, HBM⟩, hO, hB⟩ := hcut
          generalize wc = w3 at hO hB ⊢
          clear HCx
          cases b with
          | true =>
            have HM := Lib.hid (HMI.out.2.2 (HBM.out.1 rfl))
            have ht0 : 0 < t := (HBM.out.1 rfl).1
            obtain ⟨q, rfl⟩ : ∃ q, t = q + 1 := ⟨t - 1, by omega⟩
            obtain rfl : v = (q : Int) := by have := HV.out; omega
            obtain rfl : st = (q : Int) := by have := HMI.out.1; omega
            obtain ⟨g, rfl⟩ := own_at hO (by omega)
            have hqz : (q : Int) < (N : Int) := by omega
            have hq0 : (0 : Int) ≤ (q : Int) := by omega
            have hqo : q < out.length := by rw [HNO.out]; omega
            have k0 := own_cell hO (q := q) (by omega) (get_some (l := out) (i := q) hqo)
            have hy32 := HI3.out _ (get_mem (l := out) (i := q) hqo)
            have HGD : Hid (out.getD q 0 = out[q]!) := Lib.hid (by rw [List.getD_eq_getElem?_getD, get_some hqo]; rfl)
            obtain ⟨y, hy⟩ : ∃ y, out[q]! = y := ⟨_, rfl⟩
            rw [hy] at k0 hy32 HGD
            have HJ := Lib.hid (fun w => refJoin_any y x1 w hy32 HX32.out)
            have hgb := (hO.lt g rfl).1
            clear hy hy32 hqo HBT HBM HV HMI ht0
            cases hj : jn y x1 with
            | some r =>
              unfold jnV at HJ
              rw [hj] at HJ
              have HSE : Hid (stAt L (k + 1) = ⟨out.set q r, (q : Int), last⟩) := Lib.hid (by rw [HST.out, step_some HM.out (by rw [← hj, ← HGD.out]; rfl)]; rfl)
              clear hj HM HGD HST HKA
              go_upto_region 18 with (first | (go_at_call 15; refine (HJ.out _).mono ?_; rintro e w4 ⟨rfl, hB4'⟩) | fail)
              have hO4 := own_below hO hB4'
              have hB4 := hB.trans (hB4'.mono hB.size)
              have f0 := own_frozen hO4 q
              have k1 := hB4'.cell (p := ⟨g, q, none⟩) (hO.lt g rfl).2
              rw [k0] at k1
              clear hO hB hB4' k0
              go_wp2_with fail
              go_roundg (n - (k + 1))
              case measure => omega
              case rel =>
                have hs := World.ownsRow.stored hO4 q (.int .i32 r)
                have e6 : (out.set q r).length = N := by rw [List.length_set, HNO.out]
                refine ⟨k + 1, c, _, by go_num, rfl, by omega, by rw [HSE.out]; dsimp only; rw [e6], ?_, hB4.grown hs.2 hB4.size (fun k e => by cases e; exact hgb)⟩
                rw [HSE.out]
                dsimp only
                rw [e6]
                have e := hs.1
                rw [show (cl .i32 out).set q (.int .i32 r) = cl .i32 (out.set q r) from by simp [cl, List.map_set]] at e
                exact e
            | none =>
              unfold jnV at HJ
              rw [hj] at HJ
              have HSE : Hid (stAt L (k + 1) = St.push ⟨out, (q : Int), last⟩ (x1, cc)) := Lib.hid (by rw [HST.out, step_none (by rw [← hj, ← HGD.out]; rfl)])
              clear hj HM HGD HST HKA
              go_upto_region 19 with (first | (go_at_call 15; refine (HJ.out _).mono ?_; rintro e w4 ⟨rfl, hB4'⟩) | fail)
              have hO4 := own_below hO hB4'
              have hB4 := hB.trans (hB4'.mono hB.size)
              clear hO hB hB4' k0
              go_wp2_with (first
                | (at_builtin; refine wpList_append_row _ rfl _ _ 22 rfl w1.heap.size 21 i0 (.int .i32 0) 1 4 Tryz.underlying22 hi hz0 hz1 hz2 rfl (by decide) _ N (cl .i32 out) rfl (hO4.alloc _) _ _ 1 1 [.int .i32 x1] rfl rfl (row_new' _ _ _ _ rfl) (by simp [Value.oneCell']) (by unfold maxLen; omega) (by omega) (hB4.alloc hB4.size _).size ?_; intro v5 w5 hO5 hg5; obtain ⟨A5, c5, hv5⟩ := own_shape hO5; subst hv5)
                | fail)
              have hB5 : Below w1.heap.size w1 w5 := (hB4.alloc hB4.size (.cells #[.int .i32 x1] 21)).grown hg5 (hB4.alloc hB4.size _).size (fun j e => ((hO4.alloc (.cells #[.int .i32 x1] 21)).lt j e).1)
              go_roundg (n - (k + 1))
              case measure => omega
              case rel =>
                have e5 : (stAt L (k + 1)).out = out ++ [x1] := by rw [HSE.out]; rfl
                have e6 : (out ++ [x1]).length = N + 1 := by rw [List.length_append, HNO.out]; rfl
                refine ⟨k + 1, c5, A5, by go_num, rfl, by omega, by rw [e5, e6], ?_, hB5⟩
                rw [e5, e6, show cl .i32 (out ++ [x1]) = cl .i32 out ++ [.int .i32 x1] from by simp [cl]]
                exact hO5
          | false =>
            have HSE : Hid (stAt L (k + 1) = St.push ⟨out, st, last⟩ (x1, cc)) := Lib.hid (by rw [HST.out, step_no]; exact fun h => by have := HBM.out.2 (HMI.out.2.1 h); cases this)
            have hO4 := hO
            have hB4 := hB
            clear hO hB HBT HBM HV HMI HST HKA
            go_wp2_with (first
              | (at_builtin; refine wpList_append_row _ rfl _ _ 22 rfl w1.heap.size 21 i0 (.int .i32 0) 1 4 Tryz.underlying22 hi hz0 hz1 hz2 rfl (by decide) _ N (cl .i32 out) rfl (hO4.alloc _) _ _ 1 1 [.int .i32 x1] rfl rfl (row_new' _ _ _ _ rfl) (by simp [Value.oneCell']) (by unfold maxLen; omega) (by omega) (hB4.alloc hB4.size _).size ?_; intro v5 w5 hO5 hg5; obtain ⟨A5, c5, hv5⟩ := own_shape hO5; subst hv5)
              | fail)
            have hB5 : Below w1.heap.size w1 w5 := (hB4.alloc hB4.size (.cells #[.int .i32 x1] 21)).grown hg5 (hB4.alloc hB4.size _).size (fun j e => ((hO4.alloc (.cells #[.int .i32 x1] 21)).lt j e).1)
            go_roundg (n - (k + 1))
            case measure => omega
            case rel =>
              have e5 : (stAt L (k + 1)).out = out ++ [x1] := by rw [HSE.out]; rfl
              have e6 : (out ++ [x1]).length = N + 1 := by rw [List.length_append, HNO.out]; rfl
              refine ⟨k + 1, c5, A5, by go_num, rfl, by omega, by rw [e5, e6], ?_, hB5⟩
              rw [e5, e6, show cl .i32 (out ++ [x1]) = cl .i32 out ++ [.int .i32 x1] from by simp [cl]]
              exact hO5
    · obtain rfl : k = n := by omega
      have hltz : ¬ ((k : Nat) : Int) < (k : Int) := by omega
      go_wp2_with fail
      go_ret
      exact ⟨A2, c, rfl, own_down hO hB1.size, upB hB1 hB⟩
end Go.Proofs.YtenfdnnagijfnaaGreatDoor
