/-
  For any bytes: codes follow one another without a gap, each has 1 to 4 bytes, and by itself it is that code (fascialaw01.UtfCuts answers true). No condition.
-/
import Derived.Test.YtignohjphblpdaaAwake1
import Derived.Test.YtignohjphblpdaaFrame
import Derived.Test.YtignohjphblpdaaUtfMath4
namespace Go.Proofs.Ytignohjphblpdaa.utfCuts
open Go.ChangeShapes Go.WideShapes Go.ChangeAt Go.RowKit Utf
open Go.ChangeMaps (open_string shut_string)

set_option maxHeartbeats 1000000 in
theorem walkLong (a0 : Option Addr) (n0 c0 : Nat) (w : World) (h : 500 < n0) (hm0 : n0 ≤ 9223372036854775807) :
    Calls Try.prog 5 #[.slice a0 n0 c0] w (IsBool true w) := by
  go_enter Try.func5, Try.ntmps5
  go_wp2_with fail
  refine (awake_any _).mono ?_
  rintro e w1 ⟨rfl, hB⟩
  go_wp2
  go_ret
  exact ⟨rfl, hB⟩

/-- behind j codes the next one begins at place k -/
def CutAt (bs : List Int) (j k : Nat) : Prop := codes bs = (codes bs).take j ++ codesAt bs k ∧ k ≤ bs.length ∧ j ≤ (codes bs).length

theorem cut_step {bs : List Int} {j k : Nat} (h : CutAt bs j k) (hj : j < (codes bs).length) : ∃ (r : Int) (sz : Nat) (ok : Bool), firstC (bs.drop k) = (r, sz, ok) ∧ k < bs.length ∧ 1 ≤ sz ∧ sz ≤ 4 ∧ k + sz ≤ bs.length ∧
    ((codes bs).map tri)[j]? = some (r, (k : Int), (k : Int) + (sz : Int)) ∧ CutAt bs (j + 1) (k + sz) := by
  obtain ⟨h1, h2, h3⟩ := h
  have hk : k < bs.length := by
    rcases Nat.lt_or_ge k bs.length with hk | hk
    · exact hk
    · rw [codesAt_end bs hk, List.append_nil] at h1
      have := congrArg List.length h1
      rw [List.length_take] at this
      omega
  have hl := first_len (drop_ne hk)
  rw [List.length_drop] at hl
  have hst := codesAt_step bs hk
  obtain ⟨r, sz, ok, hf⟩ : ∃ r sz ok, firstC (bs.drop k) = (r, sz, ok) := ⟨_, _, _, rfl⟩
  rw [hf] at hl hst
  simp only at hl hst
  rw [hst] at h1
  have hg : (codes bs)[j]? = some (r, k, k + sz, ok) := by
    rw [h1, List.getElem?_append_right (by rw [List.length_take]; omega), List.length_take, Nat.min_eq_left (by omega), Nat.sub_self]
    rfl
  refine ⟨r, sz, ok, hf, hk, hl.1, hl.2.1, by omega, ?_, ?_, by omega, by omega⟩
  · rw [List.getElem?_map, hg]
    simp [tri]
  · have hgj : (codes bs)[j] = (r, k, k + sz, ok) := by
      rw [List.getElem?_eq_getElem hj] at hg
      injection hg
    rw [List.take_succ_eq_append_getElem hj, hgj, List.append_assoc]
    exact h1
theorem cut_end {bs : List Int} {j k : Nat} (h : CutAt bs j k) (hj : ¬ j < (codes bs).length) : k = bs.length := by
  obtain ⟨h1, h2, h3⟩ := h
  rcases Nat.lt_or_ge k bs.length with hk | hk
  · rw [codesAt_step bs hk] at h1
    have := congrArg List.length h1
    rw [List.length_append, List.length_take, List.length_cons] at this
    omega
  · omega

def CRel (bs : List Int) (w1 : World) (at_ i : Value) (wr : World) : Prop :=
  ∃ j k : Nat, i = .int .i64 j ∧ at_ = .int .i64 k ∧ CutAt bs j k ∧ Below w1.heap.size w1 wr

/-- the cells of an element of a row of codes -/
theorem c3_cells {w : World} {b o : Nat} {l : List T3} {j : Nat} {x : T3} (hc : ∀ k, k < (c3 l).length → w.cell? ⟨b, o + k, none⟩ = (c3 l)[k]?) (hx : l[j]? = some x) :
    w.cell? ⟨b, o + j * 3, none⟩ = some (.int .i32 x.1) ∧ w.cell? ⟨b, o + j * 3 + 1, none⟩ = some (.int .i64 x.2.1) ∧ w.cell? ⟨b, o + j * 3 + 2, none⟩ = some (.int .i64 x.2.2) := by
  have hj : j < l.length := (List.getElem?_eq_some_iff.1 hx).1
  have hv : l[j] = x := (List.getElem?_eq_some_iff.1 hx).2
  obtain ⟨p0, p1, p2⟩ := c3_get l j hj
  rw [hv] at p0 p1 p2
  have q := c3_len l
  exact ⟨(hc _ (by omega)).trans p0, by have := (hc (j * 3 + 1) (by omega)).trans p1; rwa [← Nat.add_assoc] at this, by have := (hc (j * 3 + 2) (by omega)).trans p2; rwa [← Nat.add_assoc] at this⟩

theorem blk3 {w w1 : World} {a b c : Value} {t : TypeId} (hb : Below (w.alloc (.cells #[a, b, c] t)).heap.size (w.alloc (.cells #[a, b, c] t)) w1) :
    w1.cell? ⟨w.heap.size, 0, none⟩ = some a ∧ w1.cell? ⟨w.heap.size, 1, none⟩ = some b ∧ w1.cell? ⟨w.heap.size, 2, none⟩ = some c := by
  have hblk : w1.heap[w.heap.size]? = some (.cells #[a, b, c] t (0, 0)) := (hb.block w.heap.size (by simp)).trans (World.alloc_heap_new w _)
  refine ⟨?_, ?_, ?_⟩
  all_goals simp [World.cell?, hblk]

theorem below_drewN' {B : Nat} {a w : World} (h : Below B a w) (n : Nat) : Below B a (w.drewN n) := ⟨h.os, h.tape, h.output, h.size, h.block⟩

set_option maxRecDepth 100000 in
set_option maxHeartbeats 4000000 in
theorem walkShort (b : List Int) (a0 : Option Addr) (n0 c0 : Nat) (w : World) (h0 : n0 ≤ 500) (hl0 : b.length = n0) (hc0 : n0 ≤ c0) (hcm : c0 ≤ 9223372036854775807) (hb : Byt b) (hr0 : Row w w.heap.size a0 (cl .u8 b)) :
    Calls Try.prog 5 #[.slice a0 n0 c0] w (IsBool true w) := by
  have HN := Lib.hid hl0
  have HB := Lib.hid hb
  clear hl0 hb
  go_enter Try.func5, Try.ntmps5
  go_wp2_with fail
  refine (Codes_out b _ _ _ _ HN.out hc0 (by omega) HB.out hr0).mono ?_
  rintro e w1 ⟨A1, d1, rfl, hd1, s1, hB1⟩
  have hlen := codes_len b
  rw [HN.out] at hlen
  obtain ⟨nc, hnc⟩ : ∃ nc, (codes b).length = nc := ⟨_, rfl⟩
  rw [hnc] at hd1 hlen ⊢
  have HC := Lib.hid hnc
  clear hnc
  go_wp2
  go_loopw [3, 14] (fun a i wr => CRel b w1 a i wr) (fun _ i _ => nc - (intOf i).toNat)
  case atStart => exact ⟨0, 0, rfl, rfl, ⟨by simp [codes_eq], by omega, by omega⟩, Below.refl _ _⟩
  case round =>
    obtain ⟨j, k, rfl, rfl, hcut, hB⟩ := hrel
    by_cases hlt : j < nc
    · obtain ⟨r, sz, ok, hf, hk, hz1, hz4, hkz, hget, hnext⟩ := cut_step hcut (by rw [HC.out]; exact hlt)
      obtain ⟨g, o, rfl, hg, hcell⟩ := (s1.below hB).at_ (by rw [c3_len, List.length_map, HC.out]; omega)
      obtain ⟨x0, x1, x2⟩ := c3_cells hcell hget
      dsimp only at x0 x1 x2
      rw [HN.out] at hk hkz
      have HF := Lib.hid hf
      have HX := Lib.hid hnext
      have HS := Lib.hid s1
      have hsz := hB.size
      have hd := drop_ne (bs := b) (k := k) (by rw [HN.out]; exact hk)
      have hsc : sca r = true := by have := first_sca hd (HB.out.drop k); rw [hf] at this; exact this
      have HSC := Lib.hid hsc
      have hown : codes ((b.drop k).take sz) = [(r, 0, sz, ok)] := by have := own_codes hd; rw [hf] at this; exact this
      have hval : valid ((b.drop k).take sz) = ok := by have := own_valid hd; rw [hf] at this; exact this
      have HOW := Lib.hid hown
      have HV := Lib.hid hval
      have HFL : Hid (ok = false → r = 65533 ∧ sz ≤ 3) := Lib.hid (fun he => by have := first_false hd (by rw [hf]; exact he); rw [hf] at this; exact this)
      clear hcell hget hf hnext s1 hcut hd hsc hown hval
      have t1 : ((k : Int) != (k : Int)) = false := by simp
      have t2 : ((sz : Int) != (k : Int) + (sz : Int) - (k : Int)) = false := by simp; omega
      have t3 : (r != r) = false := by simp
      go_wp2_with fail
      refine (Scalar_yes _ HSC.out).mono ?_
      rintro e w' ⟨rfl, rfl⟩
      have hWr : Below w.heap.size w wr := upB hB1 hB
      have hsub : Row wr wr.heap.size (Option.map (fun x => x.add k) a0) (cl .u8 ((b.drop k).take sz)) := by
        have h := ((hr0.below hWr).sub (l := k) (n := sz) (cap := c0) (m := k) (by simp [HN.out]; omega) (by omega)).2 rfl
        rw [← List.map_drop, ← List.map_take] at h
        exact h.mono hWr.size
      have HLN : Hid (((b.drop k).take sz).length = sz) := Lib.hid (by rw [List.length_take, List.length_drop, HN.out]; omega)
      have HBY : Hid (Byt ((b.drop k).take sz)) := Lib.hid ((HB.out.drop k).take sz)
      obtain ⟨ys, hys⟩ : ∃ ys, (b.drop k).take sz = ys := ⟨_, rfl⟩
      rw [hys] at hsub HLN HBY HOW HV
      clear hys
      go_wp2_with fail
      refine (Codes_out ys _ sz (c0 - k) _ HLN.out (by omega) (by omega) HBY.out (hsub.up _)).mono ?_
      rw [HOW.out]
      rintro e w2 ⟨A2, d2, rfl, hd2, s2, hB2⟩
      obtain ⟨y0, y1, y2⟩ := blk3 hB2
      have hB2' := stepB hB2
      obtain ⟨g2, o2, rfl, hg2, hcell2⟩ := s2.at_ (by simp [c3])
      obtain ⟨z0, z1, z2⟩ := c3_cells (j := 0) (x := (r, 0, (sz : Int))) hcell2 (by simp [tri])
      simp only [Nat.zero_mul, Nat.add_zero] at z0 z1 z2
      replace hsub := hsub.go hB2'
      have hW2 : Below w1.heap.size w1 w2 := hB.trans (hB2'.mono hsz)
      clear hcell2 s2 hd2 hB2 hB2' x0 x1 x2 hWr z1
      go_wp2
      go_quiet (fail)
      go_wp2_with fail
      refine (Valid_any ys _ sz (c0 - k) _ HLN.out (by omega) (by omega) HBY.out (hsub.drewN nq)).mono ?_
      rw [HV.out]
      rintro e w3 ⟨rfl, hB3⟩
      have hW3 : Below w1.heap.size w1 w3 := (below_drewN' hW2 nq).trans (hB3.mono hW2.size)
      have hlw : wr.heap.size < (w2.drewN nq).heap.size := lt_of_cell y0
      replace y0 := (hB3.cell (p := ⟨wr.heap.size, 0, none⟩) hlw).trans y0
      replace y1 := (hB3.cell (p := ⟨wr.heap.size, 1, none⟩) hlw).trans y1
      replace y2 := (hB3.cell (p := ⟨wr.heap.size, 2, none⟩) hlw).trans y2
      clear hB3 hlw z0 z2 hsub hW2 hg2
      cases ok with
      | true =>
        go_wp2
        go_roundw
        case rel => exact ⟨j + 1, k + sz, by go_num, by go_num, HX.out, hW3⟩
        case measure => simp [intOf]; omega
      | false =>
        obtain ⟨rfl, hz3⟩ := HFL.out rfl
        go_wp2
        go_roundw
        case rel => exact ⟨j + 1, k + sz, by go_num, by go_num, HX.out, hW3⟩
        case measure => simp [intOf]; omega
    · have he := cut_end hcut (by rw [HC.out]; exact hlt)
      rw [HN.out] at he
      subst he
      go_wp2_with fail
      refine (awake_any _).mono ?_
      rintro e w2 ⟨rfl, hB2⟩
      go_wp2
      go_ret
      exact ⟨rfl, upB (upB hB1 hB) hB2⟩

theorem walk (a0 : Option Addr) (len0 cap0 : Nat) (z0 : List Int) (w : World) (w0 : InRow .u8 w a0 len0 cap0 z0) :
    Calls Try.prog 5 #[.slice a0 len0 cap0] w (IsBool true w) := by
  obtain ⟨e0, g0, m0, r0, f0⟩ := w0
  unfold maxLen at m0
  by_cases h : 500 < len0
  · exact walkLong a0 len0 cap0 w h (by omega)
  · exact walkShort z0 a0 len0 cap0 w (by omega) e0 g0 m0 (fun x hx => wf_u8 (f0 x hx)) r0

/-! From the walk to the given statement. -/
set_option linter.unusedVariables false
theorem own : ownKnob Try.prog.godebug = none := by kernel_rfl
theorem laidOut : laidOutB Try.prog = true := by kernel_rfl
set_option maxRecDepth 100000 in
theorem lifted (os : Os) (started : os.Started) (H : Type) (enc : TypeId × Value → H) :
    ReturnsInHanded {} Try.checked os 5 .any (Rows.utfCutsSpec.pre6 enc Try.prog Try.f5 Rows.utfCutsRow.domain false) (Rows.utfCutsSpec.post enc Try.prog Try.f5 false true false false) := by
  refine returnsInHanded_of_change (C := Try.checked) own started (by kernel_rfl) Try.func5
    (ChangeSpec.witness6 (enc := enc) (C := Try.checked) false ⟨#[], #[.slice none 0 0], []⟩ 8 (by kernel_rfl) (by kernel_rfl) (by kernel_rfl) (by kernel_rfl)) ?_
  intro W base args ds gs before hval0 hW hcnd _
  have hval : ∀ (j : Nat) t v, Try.f5.params[j]? = some t → args[j]? = some v → Value.okWide Try.prog W .any base t v := hval0
  have hW' := hW
  obtain ⟨p, q, hA0, hV, rfl, hfz, hnd⟩ := hW
  have hA : DataW.TrodAll enc Try.prog W 0 (fun _ => true) true Try.f5.params.toList args.toList ds p := hA0
  rw [Try.params5] at hA hval
  obtain ⟨v0, vs0, d0, ds0, p0, q0, hargs, rfl, rfl, h0, r0⟩ := trodAll_cons hA
  obtain ⟨rfl, rfl, rfl⟩ := trodAll_nil r0
  obtain rfl : args = #[v0] := by cases args; simp_all
  obtain ⟨rfl, rfl⟩ := trodVars_none hV
  obtain ⟨a0, len0, cap0, rfl⟩ := okWide_slice Try.underlying22 (hval 0 22 v0 rfl rfl)
  have k0 := h0
  have lt0 : ∀ x ∈ p0, x.block < W.heap.size := by obtain ⟨m, hm⟩ := k0; exact DataW.trod_lt m _ _ _ hm
  obtain ⟨z0, w0⟩ := in_row Try.underlying22 Try.underlying5 (by kernel_rfl) h0
  clear hA0 hval0
  refine (walk a0 len0 cap0 z0 W w0).mono fun e W' ⟨he, bel⟩ => ?_
  subst he
  exact ⟨_, rfl, _, _, _, [], _, [], hW', trodAll_mk1 (shut_bool Try.underlying4 _), (trodAll_cons_mk (Below.trod laidOut (by kernel_rfl) (of_decide_eq_true (by kernel_rfl)) k0 bel lt0) trodAll_mk0), rfl, bel.frame _, fun h => by cases h⟩

theorem proved : Rows.UtfCutsSaid :=
  OpenClaim.holds_of_wide 5 Try.f5 rfl rfl rfl rfl rfl rfl rfl ⟨rfl, rfl, rfl, rfl, rfl⟩ rfl rfl rfl rfl rfl (by kernel_rfl) Try.func5 (by kernel_rfl)
    (of_decide_eq_true (by kernel_rfl)) (by unfold Func.isWrapper; first | (rw [if_pos (by decide +kernel)]; kernel_rfl) | (rw [if_neg (by decide +kernel)]; exact ⟨rfl, rfl⟩))
    (fun os started H enc _ => lifted os started H enc)
end Go.Proofs.Ytignohjphblpdaa.utfCuts
