/-
  For any bytes, any place and any byte: one byte that is another one changes at most the codes whose bytes are within three of it (fascialaw01.UtfOne answers true). No condition.
-/
import Derived.Test.YteggchjehfkppaaAwake1
import Derived.Test.YteggchjehfkppaaFrame
import Derived.Test.YteggchjehfkppaaUtfOneA
import Derived.RegionTactic
namespace Go.Proofs.Yteggchjehfkppaa.utfOne
open Go.ChangeShapes Go.WideShapes Go.ChangeAt Go.RowKit Utf
open Go.ChangeMaps (open_string shut_string)
open Go.Maps (Keyed)

set_option maxHeartbeats 1000000 in
theorem walkLong (a0 : Option Addr) (n0 c0 : Nat) (at_ c : Int) (w : World) (h : n0 = 0 ∨ 300 < n0) (hm0 : n0 ≤ 9223372036854775807) :
    Calls Try.prog 8 #[.slice a0 n0 c0, .int .u16 at_, .int .u8 c] w (IsBool true w) := by
  rcases h with rfl | h
  · go_enter Try.func8, Try.ntmps8
    go_wp2_with fail
    refine (awake_any _).mono ?_
    rintro e w1 ⟨rfl, hB⟩
    go_wp2
    go_ret
    exact ⟨rfl, hB⟩
  · have h0 : ((n0 : Int) == 0) = false := by simp; omega
    go_enter Try.func8, Try.ntmps8
    go_wp2_with fail
    refine (awake_any _).mono ?_
    rintro e w1 ⟨rfl, hB⟩
    go_wp2
    go_ret
    exact ⟨rfl, hB⟩

def MRel {H : Type} (L : List T3) (A1 : Option Addr) (bm : Nat) (w2 : World) (i : Value) (wr : World) : Prop :=
  ∃ j : Nat, i = .int .i64 j ∧ j ≤ L.length ∧ Below w2.heap.size w2 wr ∧ Row wr wr.heap.size A1 (c3 L) ∧ ∃ D : DataW H, wr.ownsMap Try.prog 37 (plainElem Try.prog 3) bm j D ∧ Cnt (L.take j) D

def NRel {H : Type} (M : List T3) (A2 : Option Addr) (bm : Nat) (w2 : World) (D : DataW H) (n : Nat) (i : Value) (wr : World) : Prop :=
  ∃ j : Nat, i = .int .i64 j ∧ j ≤ M.length ∧ Below w2.heap.size w2 wr ∧ Row wr wr.heap.size A2 (c3 M) ∧ wr.ownsMap Try.prog 37 (plainElem Try.prog 3) bm n D

set_option maxRecDepth 100000 in
set_option maxHeartbeats 4000000 in
theorem walkShort (b : List Int) (a0 : Option Addr) (n0 c0 : Nat) (at_ c : Int) (w : World) (h0 : n0 ≤ 300) (h1 : 1 ≤ n0) (hl0 : b.length = n0) (hc0 : n0 ≤ c0) (hcm : c0 ≤ 9223372036854775807) (hb : Byt b)
    (hw0 : 0 ≤ at_) (hw1 : at_ ≤ 65535) (hv0 : 0 ≤ c) (hv1 : c ≤ 255) (hr0 : Row w w.heap.size a0 (cl .u8 b)) :
    Calls Try.prog 8 #[.slice a0 n0 c0, .int .u16 at_, .int .u8 c] w (IsBool true w) := by
  obtain ⟨q, hq⟩ : ∃ q : Nat, at_ % (n0 : Int) = (q : Int) := ⟨(at_ % (n0 : Int)).toNat, by have := Int.emod_nonneg at_ (show (n0 : Int) ≠ 0 by omega); omega⟩
  have hqn : q < n0 := by have := Int.emod_lt_of_pos at_ (show (0 : Int) < (n0 : Int) by omega); omega
  have HN := Lib.hid hl0
  have HB := Lib.hid hb
  clear hl0 hb
  have e0 : ((n0 : Int) == 0) = false := by simp; omega
  obtain ⟨i0, hi, hz0, hz1, hz2⟩ := info_parts info_u8
  have hlit0 := World.ownsRow_lit (base := w.heap.size) (e := 5) (size := 1) w #[] 0 (Nat.le_refl _) (Nat.zero_le _) rfl
  have HLIT := Lib.hid hlit0
  clear hlit0
  have hmm := @run_makeMap Try.prog
  have hra := hr0.up (.cells #[] 5)
  have hq0 : (0 : Int) ≤ (q : Int) := by omega
  have hq1 : (q : Int) < (n0 : Int) := by omega
  go_enter Try.func8, Try.ntmps8
  go_wp2_with (first
    | (at_builtin; refine wpList_append_row _ rfl _ _ 22 rfl w.heap.size 5 i0 (.int .u8 0) 1 1 Try.underlying22 hi hz0 hz1 hz2 rfl (by decide) _ _ _ rfl HLIT.out _ _ _ _ _ rfl (by simp [HN.out]) hra (one_cl _ _) (by unfold maxLen; omega) (by omega) (by simp) ?_; intro v' w1 hown1 hgrow1; rw [Nat.zero_add] at hown1; obtain ⟨g, cg, rfl, hgc, hgm, hgb, hgl⟩ := own_known hown1 (by omega); have hcg := hown1.cellAt q (by omega); rw [List.nil_append, cl_get _ _ _ (by rw [HN.out]; omega)] at hcg; have hfg := hown1.frozenAt q)
    | fail)
  have hW1 : Below w.heap.size w w1 := ((Below.refl _ w).alloc (Nat.le_refl _) _).grown hgrow1 (by simp) (fun k e => (HLIT.out.lt k e).1)
  obtain ⟨hown2, _⟩ := hown1.stored q (.int .u8 c)
  rw [List.nil_append, cl_set] at hown2
  have hW2 := hW1.setCell (p := ⟨g, q, none⟩) hgb (.int .u8 c)
  have hs2 : (w1.setCell ⟨g, q, none⟩ (.int .u8 c)).heap.size = w1.heap.size := by simp
  obtain ⟨w2, hw2⟩ : ∃ w2, w1.setCell ⟨g, q, none⟩ (.int .u8 c) = w2 := ⟨_, rfl⟩
  rw [hw2] at hown2 hW2 hs2 ⊢
  have ro := Row.of_own hown2
  have rb := hr0.go hW2
  have hmap := World.ownsMap_made (H := Unit) w2 Try.prog 37 (plainElem Try.prog 3)
  rw [hs2] at hmap
  obtain ⟨os, hos⟩ : ∃ os, b.set q c = os := ⟨_, rfl⟩
  rw [hos] at ro
  have HO := Lib.hid hos
  have HOL : Hid (os.length = n0) := Lib.hid (by rw [← hos, List.length_set, HN.out])
  have HOB : Hid (Byt os) := Lib.hid (by rw [← hos]; intro x hx; rcases List.mem_or_eq_of_mem_set hx with h | rfl; exact HB.out x h; exact ⟨hv0, hv1⟩)
  clear hos hw2 hcg hfg hgrow1 hown1 hown2 hra HLIT hW1 hmm hr0
  refine (Codes_out b a0 n0 c0 _ HN.out hc0 (by omega) HB.out (rb.up _)).mono ?_
  rintro e w3 ⟨A1, d1, rfl, hd1, s1, hB3⟩
  have hlen := codes_len b
  rw [HN.out] at hlen
  obtain ⟨nc, hnc⟩ : ∃ nc, (codes b).length = nc := ⟨_, rfl⟩
  rw [hnc] at hd1 hlen ⊢
  have HC := Lib.hid hnc
  have HCL : Hid (((codes b).map tri).length = nc) := Lib.hid (by rw [List.length_map, hnc])
  clear hnc
  have hm3 := below_mapKept hmap hB3
  have hW3 : Below w2.heap.size w2 w3 := stepB hB3
  have hwf : Hid (∀ x ∈ (codes b).map tri, Wf3 x) := Lib.hid (fun x hx => by obtain ⟨y, hy, rfl⟩ := List.mem_map.1 hx; exact wf_tri HB.out (by rw [HN.out]; omega) hy)
  obtain ⟨L, hL⟩ : ∃ L, (codes b).map tri = L := ⟨_, rfl⟩
  rw [hL] at s1 HCL hwf
  have HL := Lib.hid hL
  clear hL hB3 hmap rb
  have hnl : nc ≤ 300 := by omega
  clear hlen
  go_wp2
  go_loopw [39] (fun i wr => MRel (H := Unit) L A1 w1.heap.size w2 i wr) (fun i _ => nc - (intOf i).toNat)
  case atStart => exact ⟨0, rfl, by omega, hW3, s1, _, hm3, by rw [List.take_zero]; exact cnt_nil⟩
  case round =>
    obtain ⟨j, rfl, hj, hBr, hrow, D, hmp, hcnt⟩ := hrel
    by_cases hlt : j < nc
    · have hjl : j < L.length := by rw [HCL.out]; exact hlt
      obtain ⟨g1, o1, rfl, hg1, hcell⟩ := hrow.at_ (by rw [c3_len]; omega)
      obtain ⟨x0, x1, x2⟩ := cells3 hcell (List.getElem?_eq_getElem hjl)
      obtain ⟨x, hx⟩ : ∃ x, L[j] = x := ⟨_, rfl⟩
      have hwx : Hid (Wf3 x) := Lib.hid (by rw [← hx]; exact hwf.out _ (List.getElem_mem _))
      have HTK : Hid (L.take (j + 1) = L.take j ++ [x]) := Lib.hid (by rw [List.take_succ_eq_append_getElem hjl, hx])
      rw [hx] at x0 x1 x2
      have HM := Lib.hid hmp
      have HCN := Lib.hid hcnt
      have HRW := Lib.hid hrow
      clear hx hcell hmp hcnt hrow hj
      go_wp2
      have hmx := HM.out.alloc (.cells #[.int .i32 x.1, .int .i64 x.2.1, .int .i64 x.2.2] 37)
      have hBx := hBr.alloc hBr.size (.cells #[.int .i32 x.1, .int .i64 x.2.1, .int .i64 x.2.2] 37)
      have hrx := HRW.out.up (.cells #[.int .i32 x.1, .int .i64 x.2.1, .int .i64 x.2.2] 37)
      have y0 : (wr.alloc (.cells #[.int .i32 x.1, .int .i64 x.2.1, .int .i64 x.2.2] 37)).cell? ⟨wr.heap.size, 0, none⟩ = some (.int .i32 x.1) := by simp
      have y1 : (wr.alloc (.cells #[.int .i32 x.1, .int .i64 x.2.1, .int .i64 x.2.2] 37)).cell? ⟨wr.heap.size, 1, none⟩ = some (.int .i64 x.2.1) := by simp
      have y2 : (wr.alloc (.cells #[.int .i32 x.1, .int .i64 x.2.1, .int .i64 x.2.2] 37)).cell? ⟨wr.heap.size, 2, none⟩ = some (.int .i64 x.2.2) := by simp
      obtain ⟨wx, hwx'⟩ : ∃ wx, wr.alloc (.cells #[.int .i32 x.1, .int .i64 x.2.1, .int .i64 x.2.2] 37) = wx := ⟨_, rfl⟩
      rw [hwx'] at hmx hBx hrx y0 y1 y2 ⊢
      clear hwx' x0 x1 x2 HM HRW
      obtain ⟨c1, v0, st, w4, l1, hat, hwc, l3, l2, hst⟩ := own_bump_int hmx.drew lawC Try.underlying41 Try.underlying3 zeroI (by unfold maxLen; omega) (key_code x.1 x.2.1 x.2.2 hwx.out.1 hwx.out.2.1 hwx.out.2.2)
      obtain ⟨hc1, hcn⟩ := cnt_step HCN.out hwx.out hat
      have hc2 : (L.take j).count x ≤ j := Nat.le_trans List.count_le_length (List.length_take_le _ _)
      have hc3 : 0 ≤ c1 := by omega
      have hc4 : c1 ≤ 300 := by omega
      obtain ⟨w5, l4, hm5, hg5⟩ := hst (c1 + 1) (WalkArith.wf_i64 (by omega))
      have hr5 := row_mapTurned hmx.drew hg5 hrx.drew
      have HC1 := Lib.hid hc1
      clear hst hat hc1
      go_region
      go_wp2
      go_roundw
      case rel => exact ⟨j + 1, by go_num, by omega, hBx.drew.grown hg5 hBx.drew.size (fun k e => by cases e; omega), hr5, _, hm5, by rw [HTK.out]; exact hcn⟩
      case measure => simp [intOf]; omega
    · obtain rfl : j = nc := by rw [HCL.out] at hj; omega
      have hcn : Cnt ((codes b).map tri) D := by rw [HL.out]; rw [List.take_of_length_le (by rw [HCL.out]; omega)] at hcnt; exact hcnt
      have HM := Lib.hid hmp
      have HCN := Lib.hid hcn
      have ro4 := ro.go hBr
      have HRO := Lib.hid ro
      clear hmp hcnt hcn hrow ro hm3 hW3 s1
      go_wp2_with fail
      refine (Codes_out os _ n0 cg _ HOL.out hgc (by omega) HOB.out ro4).mono ?_
      rintro e w4 ⟨A2, d2, rfl, hd2, s2, hB4⟩
      obtain ⟨mc, hmc⟩ : ∃ mc, (codes os).length = mc := ⟨_, rfl⟩
      have hmc2 := codes_len os
      rw [HOL.out] at hmc2
      rw [hmc] at hd2 hmc2 ⊢
      have HMC := Lib.hid hmc
      clear hmc
      have HM4 := Lib.hid (below_mapKept HM.out hB4)
      have hW4 : Below w2.heap.size w2 w4 := hBr.trans (hB4.mono hBr.size)
      clear HM
      go_wp2
      go_loopw [53] (fun i wr => NRel (H := Unit) ((codes os).map tri) A2 w1.heap.size w2 D j i wr) (fun i _ => mc - (intOf i).toNat)
      case atStart => exact ⟨0, rfl, by omega, hW4, s2, HM4.out⟩
      case round =>
        obtain ⟨i, rfl, hi2, hB5, hrow5, hm5⟩ := hrel
        rw [List.length_map, HMC.out] at hi2
        by_cases hlt5 : i < mc
        · have hil : i < (codes os).length := by rw [HMC.out]; exact hlt5
          obtain ⟨g1, o1, rfl, hg1, hcell⟩ := hrow5.at_ (by rw [c3_len, List.length_map]; omega)
          obtain ⟨x0, x1, x2⟩ := cells3 (j := i) (x := tri (codes os)[i]) hcell (by rw [List.getElem?_map, List.getElem?_eq_getElem hil]; rfl)
          have hmem : (codes os)[i] ∈ codes os := List.getElem_mem _
          have hwx := wf_tri HOB.out (by rw [HOL.out]; omega) hmem
          obtain ⟨x, hx⟩ : ∃ x, (codes os)[i] = x := ⟨_, rfl⟩
          rw [hx] at x0 x1 x2 hmem hwx
          have hxl := codes_from_le os os.length 0 (by omega) x (by rw [← codes_eq]; exact hmem)
          rw [HOL.out] at hxl
          obtain ⟨r, f, t, ok⟩ := x
          simp only [tri] at x0 x1 x2 hwx hxl
          have hf3 : f < 300 := by omega
          have ht3 : t ≤ 300 := by omega
          have HME := Lib.hid hmem
          have HWX := Lib.hid hwx
          clear hmem hwx hxl hcell hx
          have HK : Hid ((t + 3 ≤ q ∨ q + 3 < f) → D.atKey (kx (r, (f : Int), (t : Int))) (.lit (.int .i64 0)) = .lit (.int .i64 1)) := Lib.hid (fun hk => by
            have hsame : ∀ j, j ≠ q → os[j]? = b[j]? := fun j hj => by rw [← HO.out, List.getElem?_set_ne (Ne.symm hj)]
            have hb2 := one_byte (by rw [HOL.out, HN.out]) hsame HME.out hk
            have := HCN.out.2 (r, (f : Int), (t : Int)) HWX.out
            rw [this, show ((r, (f : Int), (t : Int)) : T3) = tri (r, f, t, ok) from rfl, count_one hb2]
            rfl)
          obtain ⟨c1, l1, hat, hwc⟩ := (hm5.alloc (.cells #[.int .i32 r, .int .i64 (f : Int), .int .i64 (t : Int)] 37)).lookup_int (Keyed.of_law lawC) Try.underlying41 Try.underlying3 (zeroI _) (key_code r f t HWX.out.1 HWX.out.2.1 HWX.out.2.2)
          have HAT := Lib.hid hat
          have HM5 := Lib.hid hm5
          clear hat hm5 hwc
          by_cases h1 : (t : Int) ≤ (q : Int) - 3
          · obtain rfl : c1 = 1 := by
              have := HK.out (.inl (by omega))
              rw [HAT.out] at this
              exact (Lit.int.inj (DataW.lit.inj this)).2
            go_wp2
            go_roundw
            case rel => exact ⟨i + 1, by go_num, by rw [List.length_map, HMC.out]; omega, hB5.alloc hB5.size _, hrow5.up _, HM5.out.alloc _⟩
            case measure => simp [intOf]; omega
          · by_cases h2 : (q : Int) + 3 < (f : Int)
            · obtain rfl : c1 = 1 := by
                have := HK.out (.inr (by omega))
                rw [HAT.out] at this
                exact (Lit.int.inj (DataW.lit.inj this)).2
              go_wp2
              go_roundw
              case rel => exact ⟨i + 1, by go_num, by rw [List.length_map, HMC.out]; omega, hB5.alloc hB5.size _, hrow5.up _, HM5.out.alloc _⟩
              case measure => simp [intOf]; omega
            · clear l1
              go_wp2
              go_roundw
              case rel => exact ⟨i + 1, by go_num, by rw [List.length_map, HMC.out]; omega, hB5.alloc hB5.size _, hrow5.up _, HM5.out.alloc _⟩
              case measure => simp [intOf]; omega
        · have ro6 := HRO.out.go hB5
          have hmp : 0 < mc := by
            rcases Nat.eq_zero_or_pos mc with h | h
            · exfalso
              have hlt0 : 0 < os.length := by rw [HOL.out]; omega
              have hst := codesAt_step os hlt0
              rw [← codes_eq] at hst
              have := congrArg List.length hst
              rw [HMC.out, h, List.length_cons] at this
              omega
            · exact h
          clear hrow5 hm5 s2 HM4 ro4
          go_wp2_with fail
          refine (Codes_out os _ n0 cg _ HOL.out hgc (by omega) HOB.out ro6).mono ?_
          rintro e w7 ⟨A7, d7, rfl, hd7, s7, hB7⟩
          rw [HMC.out] at hd7 ⊢
          have hW7 : Below w.heap.size w w7 := upB hW2 (hB5.trans (hB7.mono hB5.size))
          clear s7 hB7 hB5 ro6
          go_wp2_with fail
          refine (awake_any _).mono ?_
          rintro e w8 ⟨rfl, hB8⟩
          have hW8 := upB hW7 hB8
          clear hB8 hW7
          go_wp2
          go_ret
          exact ⟨rfl, hW8⟩

theorem walk (a0 : Option Addr) (len0 cap0 : Nat) (z0 : List Int) (a1 a2 : Int) (w : World) (w0 : InRow .u8 w a0 len0 cap0 z0) (w1 : (Lit.int .u16 a1).wf = true) (w2 : (Lit.int .u8 a2).wf = true) :
    Calls Try.prog 8 #[.slice a0 len0 cap0, .int .u16 a1, .int .u8 a2] w (IsBool true w) := by
  obtain ⟨e0, g0, m0, r0, f0⟩ := w0
  have hw := wf_u16 w1
  have hv := wf_u8 w2
  unfold maxLen at m0
  by_cases h : len0 = 0 ∨ 300 < len0
  · exact walkLong a0 len0 cap0 a1 a2 w h (by omega)
  · exact walkShort z0 a0 len0 cap0 a1 a2 w (by omega) (by omega) e0 g0 m0 (fun x hx => wf_u8 (f0 x hx)) hw.1 hw.2 hv.1 hv.2 r0

/-! From the walk to the given statement. -/
set_option linter.unusedVariables false
theorem own : ownKnob Try.prog.godebug = none := by kernel_rfl
theorem laidOut : laidOutB Try.prog = true := by kernel_rfl
set_option maxRecDepth 100000 in
theorem lifted (os : Os) (started : os.Started) (H : Type) (enc : TypeId × Value → H) :
    ReturnsInHanded {} Try.checked os 8 .any (Rows.utfOneSpec.pre6 enc Try.prog Try.f8 Rows.utfOneRow.domain false) (Rows.utfOneSpec.post enc Try.prog Try.f8 false true false false) := by
  refine returnsInHanded_of_change (C := Try.checked) own started (by kernel_rfl) Try.func8
    (ChangeSpec.witness6 (enc := enc) (C := Try.checked) false ⟨#[], #[.slice none 0 0, .int .u16 0, .int .u8 0], []⟩ 8 (by kernel_rfl) (by kernel_rfl) (by kernel_rfl) (by kernel_rfl)) ?_
  intro W base args ds gs before hval0 hW hcnd _
  have hval : ∀ (j : Nat) t v, Try.f8.params[j]? = some t → args[j]? = some v → Value.okWide Try.prog W .any base t v := hval0
  have hW' := hW
  obtain ⟨p, q, hA0, hV, rfl, hfz, hnd⟩ := hW
  have hA : DataW.TrodAll enc Try.prog W 0 (fun _ => true) true Try.f8.params.toList args.toList ds p := hA0
  rw [Try.params8] at hA hval
  obtain ⟨v0, vs0, d0, ds0, p0, q0, hargs, rfl, rfl, h0, r0⟩ := trodAll_cons hA
  obtain ⟨v1, vs1, d1, ds1, p1, q1, rfl, rfl, rfl, h1, r1⟩ := trodAll_cons r0
  obtain ⟨v2, vs2, d2, ds2, p2, q2, rfl, rfl, rfl, h2, r2⟩ := trodAll_cons r1
  obtain ⟨rfl, rfl, rfl⟩ := trodAll_nil r2
  obtain rfl : args = #[v0, v1, v2] := by cases args; simp_all
  obtain ⟨rfl, rfl⟩ := trodVars_none hV
  obtain ⟨a0, len0, cap0, rfl⟩ := okWide_slice Try.underlying22 (hval 0 22 v0 rfl rfl)
  have k0 := h0
  have lt0 : ∀ x ∈ p0, x.block < W.heap.size := by obtain ⟨m, hm⟩ := k0; exact DataW.trod_lt m _ _ _ hm
  obtain ⟨z0, w0⟩ := in_row Try.underlying22 Try.underlying5 (by kernel_rfl) h0
  obtain ⟨a1, rfl, rfl, rfl, w1⟩ := open_int Try.underlying38 (hval 1 38 v1 rfl rfl) h1
  obtain ⟨a2, rfl, rfl, rfl, w2⟩ := open_int Try.underlying5 (hval 2 5 v2 rfl rfl) h2
  clear hA0 hval0
  refine (walk a0 len0 cap0 z0 a1 a2 W w0 w1 w2).mono fun e W' ⟨he, bel⟩ => ?_
  subst he
  exact ⟨_, rfl, _, _, _, [], _, [], hW', trodAll_mk1 (shut_bool Try.underlying4 _), (trodAll_cons_mk (Below.trod laidOut (by kernel_rfl) (of_decide_eq_true (by kernel_rfl)) k0 bel lt0) (trodAll_cons_mk (shut_int Try.underlying38 w1) (trodAll_cons_mk (shut_int Try.underlying5 w2) trodAll_mk0))), rfl, bel.frame _, fun h => by cases h⟩

theorem proved : Rows.UtfOneSaid :=
  OpenClaim.holds_of_wide 8 Try.f8 rfl rfl rfl rfl rfl rfl rfl ⟨rfl, rfl, rfl, rfl, rfl⟩ rfl rfl rfl rfl rfl (by kernel_rfl) Try.func8 (by kernel_rfl)
    (of_decide_eq_true (by kernel_rfl)) (by unfold Func.isWrapper; first | (rw [if_pos (by decide +kernel)]; kernel_rfl) | (rw [if_neg (by decide +kernel)]; exact ⟨rfl, rfl⟩))
    (fun os started H enc _ => lifted os started H enc)
end Go.Proofs.Yteggchjehfkppaa.utfOne
