/-
  For any bytes, any of their codes, and any two code points: cut where a code begins, bytes are decoded in two parts as in one; and the bytes of a scalar stand in no other one's, but as a whole (fascialaw01.UtfParts answers true). No condition.
-/
import Derived.Test.YtignohjphblpdaaUtfRefE
import Derived.Test.YtignohjphblpdaaAppendStep
import Derived.Test.YtignohjphblpdaaFrame
import Derived.Deep.RegionLaw
import Derived.Deep.RegionHeld3
import Derived.Deep.DeepCutAuto
namespace Go.Proofs.Ytignohjphblpdaa.utfParts
open Go.ChangeShapes Go.WideShapes Go.ChangeAt Go.RowKit Utf
open Go.ChangeMaps (open_string shut_string)

/-- both parts decoded, one behind the other -/
def Both (bs : List Int) (w1 : World) (v : Value) (wx : World) : Prop :=
  ∃ A c, v = .slice A (dec bs).length c ∧ Row wx wx.heap.size A (cl .i32 (dec bs)) ∧ Below w1.heap.size w1 wx

theorem both_mk {bs t d : List Int} {w1 w3 : World} {v : Value} {B : Nat} (hd : dec t ++ dec d = dec bs) (ho : w3.ownsRow B 21 1 v (0 + (dec t).length + (dec d).length) ([] ++ cl .i32 (dec t) ++ cl .i32 (dec d))) (hb : Below w1.heap.size w1 w3) : Both bs w1 v w3 := by
  obtain ⟨A, c, hv, _, hr⟩ := own_form ho
  refine ⟨A, c, ?_, ?_, hb⟩
  · rw [hv, ← hd, List.length_append, Nat.zero_add]
  · rw [← hd]
    simpa using hr

/-- no bytes of one scalar within those of another one, but as a whole -/
theorem within {r s : Int} {i : Nat} (h : ((enc [r]).drop i).take (enc [s]).length = enc [s]) : i = 0 ∧ (enc [r]).length = (enc [s]).length := by
  rw [enc_one, enc_one] at h ⊢
  exact b1_within (sca_fix r) (sca_fix s) h

theorem below_of_drew {w wA : World} (h : Below w.drew.heap.size w.drew wA) : Below w.heap.size w wA := ⟨h.os, h.tape, h.output, h.size, h.block⟩

set_option maxRecDepth 100000 in
set_option maxHeartbeats 1000000 in
theorem walkMain (b : List Int) (which r s : Int) (a0 : Option Addr) (n0 c0 m : Nat) (w : World) (hl0 : b.length = n0) (_hn0 : n0 ≤ 9223372036854775807) (hc0 : n0 ≤ c0) (_hcm : c0 ≤ 9223372036854775807) (hb : Byt b)
    (hm : m ≤ 500) (hmn : m ≤ n0) (hmin : (if (500 : Int) < (n0 : Int) then (500 : Int) else (n0 : Int)) = (m : Int)) (hw0 : 0 ≤ which) (hw1 : which ≤ 65535)
    (hr0 : Row w w.heap.size a0 (cl .u8 b)) :
    Calls Try.prog 6 #[.slice a0 n0 c0, .int .u16 which, .int .i32 r, .int .i32 s] w (IsBool true w) := by
  have hsub : Row w w.heap.size a0 (cl .u8 (b.take m)) := by
    rcases hr0 with h | ⟨bb, o, h1, h2, h3⟩
    · exact .inl (by have : b = [] := by simpa using h
                     subst this; simp)
    · exact .inr ⟨bb, o, h1, h2, fun k hk => by
        have hk' : k < m := by simpa [hl0, Nat.min_eq_left hmn] using hk
        rw [h3 k (by simp; omega)]
        simp [hk']⟩
  have HL0 := Lib.hid hl0
  have HB := Lib.hid hb
  have HLM : Hid ((b.take m).length = m) := Lib.hid (by rw [List.length_take, hl0]; omega)
  clear hl0 hb
  go_enter Try.func6, Try.ntmps6
  go_wp2_with fail
  refine (Codes_out (b.take m) _ _ _ _ HLM.out (by omega) (by omega) (HB.out.take m) hsub).mono ?_
  rintro e w1 ⟨A1, d1, rfl, hd1, s1, hB1⟩
  obtain ⟨bs, hbs⟩ : ∃ bs, b.take m = bs := ⟨_, rfl⟩
  rw [hbs] at hsub HLM hd1 s1 ⊢
  have HBB : Hid (Byt bs) := Lib.hid (by rw [← hbs]; exact HB.out.take m)
  have HBS := Lib.hid hbs
  clear hbs
  have hlen := codes_len bs
  rw [HLM.out] at hlen
  obtain ⟨nl, hnl⟩ : ∃ nl, (codes bs).length = nl := ⟨_, rfl⟩
  rw [hnl] at hd1 hlen ⊢
  have HNL := Lib.hid hnl
  clear hnl
  have r1 := hr0.go hB1
  have t1 := hsub.go hB1
  clear hr0 hsub
  by_cases h0 : 0 < nl
  · obtain ⟨q, hq⟩ : ∃ q : Nat, which % (nl : Int) = (q : Int) := ⟨(which % (nl : Int)).toNat, by have := Int.emod_nonneg which (show (nl : Int) ≠ 0 by omega); omega⟩
    have hqn : q < nl := by have := Int.emod_lt_of_pos which (show (0 : Int) < (nl : Int) by omega); omega
    have hql : q < (codes bs).length := by rw [HNL.out]; exact hqn
    obtain ⟨g, o, rfl, hg, hcell⟩ := s1.at_ (by rw [c3_len, List.length_map, HNL.out]; omega)
    obtain ⟨_, x1, _⟩ := c3_cells hcell (show ((codes bs).map tri)[q]? = some (tri (codes bs)[q]) by rw [List.getElem?_map, List.getElem?_eq_getElem hql]; rfl)
    obtain ⟨k, hk⟩ : ∃ k, (codes bs)[q].2.1 = k := ⟨_, rfl⟩
    have hx : (tri (codes bs)[q]).2.1 = (k : Int) := by simp [tri, hk]
    rw [hx] at x1
    have hmem : (codes bs)[q] ∈ codesAt bs 0 := by rw [← codes_eq]; exact List.getElem_mem _
    have hkm := codes_from_le bs bs.length 0 (by omega) _ hmem
    rw [hk, HLM.out] at hkm
    have hkm' : k < m := hkm.2.1
    have HDP : Hid (dec (bs.take k) ++ dec (bs.drop k) = dec bs) := Lib.hid (dec_parts bs.length bs k (Nat.le_refl _) ⟨_, List.getElem_mem _, hk⟩)
    clear hcell hk hx hmem hkm s1
    have tA : Row w1 w1.heap.size a0 (cl .u8 (bs.take k)) := by
      rcases t1 with h | ⟨bb, oo, e1, e2, e3⟩
      · exact .inl (by have : bs = [] := by simpa using h
                       subst this; simp)
      · exact .inr ⟨bb, oo, e1, e2, fun j hj => by
          have hj' : j < k := by simp at hj; omega
          rw [e3 j (by simp [HLM.out]; omega)]
          simp [hj']⟩
    have tB : Row w1 w1.heap.size (Option.map (fun x => x.add k) a0) (cl .u8 (bs.drop k)) := by
      have h := (t1.sub (l := k) (n := m - k) (cap := c0) (m := k) (by simp [HLM.out]; omega) (by omega)).2 rfl
      rw [← List.map_drop, List.take_of_length_le (by simp [HLM.out])] at h
      exact h
    have HA1 : Hid ((bs.take k).length = k) := Lib.hid (by rw [List.length_take, HLM.out]; omega)
    have HA2 : Hid ((bs.drop k).length = m - k) := Lib.hid (by rw [List.length_drop, HLM.out])
    have hd1l : (dec (bs.take k)).length ≤ 500 := by have := codes_len (bs.take k); unfold dec; rw [List.length_map]; rw [HA1.out] at this; omega
    have hd2l : (dec (bs.drop k)).length ≤ 500 := by have := codes_len (bs.drop k); unfold dec; rw [List.length_map]; rw [HA2.out] at this; omega
    have hlit0 := World.ownsRow_lit (base := w1.heap.size) (e := 21) (size := 1) w1 #[] 0 (Nat.le_refl _) (Nat.zero_le _) rfl
    have HLIT := Lib.hid hlit0
    clear hlit0
    obtain ⟨i0, hi, hz0, hz1, hz2⟩ := info_parts info_i32
    have hkc : k ≤ c0 := by omega
    have hk5 : k ≤ 100000 := by omega
    have hmk5 : m - k ≤ 100000 := by omega
    have hmkc : m - k ≤ c0 - k := by omega
    have HT1 : Hid (Byt (bs.take k)) := Lib.hid (HBB.out.take k)
    have HT2 : Hid (Byt (bs.drop k)) := Lib.hid (HBB.out.drop k)
    have hkm2 : k ≤ m := by omega
    have hmc : m ≤ c0 := by omega
    have hkn0 : (0 : Int) ≤ (k : Int) := by omega
    have hck : (c0 == k) = false := by simp; omega
    have hck' : ¬ c0 = k := by omega
    go_upto_region 6 with fail
    clear x1 hg
    go_cut [11] (fun s11 wx => Both bs w1 s11 wx)
    case first =>
      go_region_held3 (fun _ => True) (trivial) (first
        | (go_at_call_of 16 (Value.slice a0 k c0); refine (Decode_out (bs.take k) a0 k c0 _ HA1.out hkc hk5 HT1.out ?_).mono ?_; (first | exact tA.drew | exact (tA.up _).drew); rintro e wA ⟨AA, dA, rfl, hdA, sA, hBA⟩; have hbA : Below w1.heap.size w1 wA := (by first | exact below_of_drew hBA | exact stepB (below_of_drew hBA)))
        | (go_at_call_of 16 (Value.slice (Option.map (fun x => x.add k) a0) (m - k) (c0 - k)); refine (Decode_out (bs.drop k) _ (m - k) (c0 - k) _ HA2.out hmkc hmk5 HT2.out ?_).mono ?_; exact tB.go hb2; rintro e wB ⟨AB, dB, rfl, hdB, sB, hBB⟩)
        | (refine step_append_row _ ?_ (.tmp 46) (.tmp 53) 23 ?_ w1.heap.size 21 i0 (.int .i32 0) 1 4 Try.underlying23 hi hz0 hz1 hz2 rfl (Nat.zero_lt_succ 0) v2 (0 + (dec (bs.take k)).length) ([] ++ cl .i32 (dec (bs.take k))) ?_ ?_ wB.heap.size AB (dec (bs.drop k)).length dB (cl .i32 (dec (bs.drop k))) ?_ ?_ ?_ (one_cl _ _) ?_ ?_ ?_ ?_; (rfl); (rfl); (rfl); (exact (own_below hown2 hBB)); (rfl); (simp); (exact sB); ((unfold maxLen; omega)); (omega); (exact (hb2.trans (hBB.mono hb2.size)).size); intro v3 w3 hown3 hgrow3; have hb3 : Below w1.heap.size w1 w3 := (hb2.trans (hBB.mono hb2.size)).grown hgrow3 (hb2.trans (hBB.mono hb2.size)).size (fun j e => ((own_below hown2 hBB).lt j e).1))
        | (refine step_append_row _ ?_ (.tmp 41) (.tmp 45) 23 ?_ w1.heap.size 21 i0 (.int .i32 0) 1 4 Try.underlying23 hi hz0 hz1 hz2 rfl (Nat.zero_lt_succ 0) (.slice (some ⟨w1.heap.size, 0, none⟩) 0 0) 0 [] ?_ ?_ wA.heap.size AA (dec (bs.take k)).length dA (cl .i32 (dec (bs.take k))) ?_ ?_ ?_ (one_cl _ _) ?_ ?_ ?_ ?_; (rfl); (rfl); (rfl); (exact own_below HLIT.out (below_of_drew hBA)); (rfl); (simp); (exact sA); ((unfold maxLen; omega)); (omega); (exact hbA.size); intro v2 w2 hown2 hgrow2; have hb2 : Below w1.heap.size w1 w2 := hbA.grown hgrow2 hbA.size (fun j e => ((own_below HLIT.out (below_of_drew hBA)).lt j e).1))
        | (refine step_append_row _ ?_ (.tmp 41) (.tmp 45) 23 ?_ w1.heap.size 21 i0 (.int .i32 0) 1 4 Try.underlying23 hi hz0 hz1 hz2 rfl (Nat.zero_lt_succ 0) (.slice (some ⟨wA.heap.size, 0, none⟩) 0 0) 0 [] ?_ ?_ (wA.alloc (.cells #[] 21)).heap.size AA (dec (bs.take k)).length dA (cl .i32 (dec (bs.take k))) ?_ ?_ ?_ (one_cl _ _) ?_ ?_ ?_ ?_; (rfl); (rfl); (rfl); (exact (World.ownsRow_lit (base := w1.heap.size) (e := 21) (size := 1) wA #[] 0 hbA.size (Nat.zero_le _) rfl)); (rfl); (simp); (exact (sA.up _)); ((unfold maxLen; omega)); (omega); (exact (hbA.alloc hbA.size _).size); intro v2 w2 hown2 hgrow2; have hb2 : Below w1.heap.size w1 w2 := (hbA.alloc hbA.size _).grown hgrow2 (hbA.alloc hbA.size _).size (fun j e => ((World.ownsRow_lit (base := w1.heap.size) (e := 21) (size := 1) wA #[] 0 hbA.size (Nat.zero_le _) rfl).lt j e).1))
        | fail)
      all_goals (go_wp2_with fail; go_meet; exact both_mk HDP.out hown3 hb3)
    case rest =>
      obtain ⟨A3, c3', rfl, hr3, hb3⟩ := hcut
      have HDL : Hid ((dec bs).length ≤ 500) := Lib.hid (by have := codes_len bs; unfold dec; rw [List.length_map]; rw [HLM.out] at this; omega)
      have t3 := t1.go hb3
      have hW3 := upB hB1 hb3
      clear tA tB HLIT
      go_wp2_with fail
      refine (Decode_out bs _ _ _ _ HLM.out (by omega) (by omega) HBB.out t3).mono ?_
      rintro e w4 ⟨A4, d4, rfl, hd4, s4, hB4⟩
      replace hr3 := hr3.go hB4
      have hW4 := upB hW3 hB4
      clear hB4 hW3 t3
      go_wp2_with fail
      refine (Runes_any (dec bs) (dec bs) _ _ _ _ _ _ _ rfl rfl (by have := HDL.out; omega) (by have := HDL.out; omega) hr3 s4).mono ?_
      rw [decide_eq_true rfl]
      rintro e w4' ⟨rfl, hB4'⟩
      have hW4' := upB hW4 hB4'
      clear hB4' hW4 hr3 s4
      go_wp2_with fail
      refine (Encode_out [r] _ 1 1 _ rfl (by omega) (row_new' w4' _ _ _ rfl)).mono ?_
      rintro e w5 ⟨A5, d5, rfl, hd5, s5, hB5⟩
      have hW5 := upB hW4' (stepB hB5)
      clear hB5
      go_wp2_with fail
      refine (Encode_out [s] _ 1 1 _ rfl (by omega) (row_new' w5 _ _ _ rfl)).mono ?_
      rintro e w6 ⟨A6, d6, rfl, hd6, s6, hB6⟩
      have hW6 := upB hW5 (stepB hB6)
      replace s5 := s5.go (stepB hB6)
      clear hB6 hW5
      have HWI := Lib.hid (fun i => within (r := r) (s := s) (i := i))
      have HBX := Lib.hid (enc_byt [r])
      have HBY := Lib.hid (enc_byt [s])
      have hxl := encOne_len r
      have hyl := encOne_len s
      rw [← enc_one] at hxl hyl
      obtain ⟨xs, hxs⟩ : ∃ xs, enc [r] = xs := ⟨_, rfl⟩
      obtain ⟨ys, hys⟩ : ∃ ys, enc [s] = ys := ⟨_, rfl⟩
      rw [hxs] at s5 hd5 HWI HBX hxl ⊢
      rw [hys] at s6 hd6 HWI HBY hyl ⊢
      clear hxs hys
      obtain ⟨lx, hlx⟩ : ∃ lx, xs.length = lx := ⟨_, rfl⟩
      obtain ⟨ly, hly⟩ : ∃ ly, ys.length = ly := ⟨_, rfl⟩
      rw [hlx] at hd5 hxl HWI ⊢
      rw [hly] at hd6 hyl HWI ⊢
      have HLX := Lib.hid hlx
      have HLY := Lib.hid hly
      clear hlx hly
      go_wp2
      go_loopw [14] (fun iv wr => ∃ i : Nat, i ≤ 5 ∧ iv = .int .i64 i ∧ Below w6.heap.size w6 wr) (fun iv _ => 6 - (intOf iv).toNat)
      case atStart => exact ⟨0, by omega, rfl, Below.refl _ _⟩
      case round =>
        obtain ⟨i, hi5, rfl, hB⟩ := hrel
        by_cases hlt : i + ly ≤ lx
        · have hrx : Row wr wr.heap.size (Option.map (fun x => x.add i) A5) (cl .u8 ((xs.drop i).take ly)) := by
            have h := ((s5.go hB).sub (l := i) (n := ly) (cap := d5) (m := i) (by simp [HLX.out]; omega) (by omega)).2 rfl
            rw [← List.map_drop, ← List.map_take] at h
            exact h
          have hry := s6.go hB
          have hsame := Same_any ((xs.drop i).take ly) ys _ _ ly ly (d5 - i) d6 wr (by rw [List.length_take, List.length_drop, HLX.out]; omega) HLY.out ((HBX.out.drop i).take ly) HBY.out hrx hry
          have hint : ((i : Int) + (ly : Int) ≤ (lx : Int)) := by omega
          by_cases hw : (xs.drop i).take ly = ys
          · obtain ⟨e1, e2⟩ := HWI.out i hw
            rw [decide_eq_true hw] at hsame
            have HSM := Lib.hid hsame
            have q1 : ((i : Int) != 0) = false := by simp; omega
            have q2 : ((lx : Int) != (ly : Int)) = false := by simp; omega
            clear hsame hw hrx hry e1 e2
            go_wp2_with fail
            refine HSM.out.mono ?_
            rintro e w7 ⟨rfl, hB7⟩
            have hW7 := hB.trans (hB7.mono hB.size)
            clear hB7
            go_wp2
            go_roundw
            case rel => exact ⟨i + 1, by omega, by go_num, hW7⟩
            case measure => simp [intOf]; omega
          · rw [decide_eq_false hw] at hsame
            have HSM := Lib.hid hsame
            clear hsame hw hrx hry
            go_wp2_with fail
            refine HSM.out.mono ?_
            rintro e w7 ⟨rfl, hB7⟩
            have hW7 := hB.trans (hB7.mono hB.size)
            clear hB7
            go_wp2
            go_roundw
            case rel => exact ⟨i + 1, by omega, by go_num, hW7⟩
            case measure => simp [intOf]; omega
        · have hint : ¬ ((i : Int) + (ly : Int) ≤ (lx : Int)) := by omega
          go_wp2_with fail
          refine (awake_any _).mono ?_
          rintro e w8 ⟨rfl, hB8⟩
          go_wp2
          go_ret
          exact ⟨rfl, upB (upB hW6 hB) hB8⟩
  · have h0' : decide (0 < nl) = false := by simpa using h0
    go_wp2_with fail
    refine (Encode_out [r] _ 1 1 _ rfl (by omega) (row_new' w1 _ _ _ rfl)).mono ?_
    rintro e w5 ⟨A5, d5, rfl, hd5, s5, hB5⟩
    have hW5 := upB hB1 (stepB hB5)
    clear hB5
    go_wp2_with fail
    refine (Encode_out [s] _ 1 1 _ rfl (by omega) (row_new' w5 _ _ _ rfl)).mono ?_
    rintro e w6 ⟨A6, d6, rfl, hd6, s6, hB6⟩
    have hW6 := upB hW5 (stepB hB6)
    replace s5 := s5.go (stepB hB6)
    clear hB6 hW5
    have HWI := Lib.hid (fun i => within (r := r) (s := s) (i := i))
    have HBX := Lib.hid (enc_byt [r])
    have HBY := Lib.hid (enc_byt [s])
    have hxl := encOne_len r
    have hyl := encOne_len s
    rw [← enc_one] at hxl hyl
    obtain ⟨xs, hxs⟩ : ∃ xs, enc [r] = xs := ⟨_, rfl⟩
    obtain ⟨ys, hys⟩ : ∃ ys, enc [s] = ys := ⟨_, rfl⟩
    rw [hxs] at s5 hd5 HWI HBX hxl ⊢
    rw [hys] at s6 hd6 HWI HBY hyl ⊢
    clear hxs hys
    obtain ⟨lx, hlx⟩ : ∃ lx, xs.length = lx := ⟨_, rfl⟩
    obtain ⟨ly, hly⟩ : ∃ ly, ys.length = ly := ⟨_, rfl⟩
    rw [hlx] at hd5 hxl HWI ⊢
    rw [hly] at hd6 hyl HWI ⊢
    have HLX := Lib.hid hlx
    have HLY := Lib.hid hly
    clear hlx hly
    go_wp2
    go_loopw [14] (fun iv wr => ∃ i : Nat, i ≤ 5 ∧ iv = .int .i64 i ∧ Below w6.heap.size w6 wr) (fun iv _ => 6 - (intOf iv).toNat)
    case atStart => exact ⟨0, by omega, rfl, Below.refl _ _⟩
    case round =>
      obtain ⟨i, hi5, rfl, hB⟩ := hrel
      by_cases hlt : i + ly ≤ lx
      · have hrx : Row wr wr.heap.size (Option.map (fun x => x.add i) A5) (cl .u8 ((xs.drop i).take ly)) := by
          have h := ((s5.go hB).sub (l := i) (n := ly) (cap := d5) (m := i) (by simp [HLX.out]; omega) (by omega)).2 rfl
          rw [← List.map_drop, ← List.map_take] at h
          exact h
        have hry := s6.go hB
        have hsame := Same_any ((xs.drop i).take ly) ys _ _ ly ly (d5 - i) d6 wr (by rw [List.length_take, List.length_drop, HLX.out]; omega) HLY.out ((HBX.out.drop i).take ly) HBY.out hrx hry
        have hint : ((i : Int) + (ly : Int) ≤ (lx : Int)) := by omega
        by_cases hw : (xs.drop i).take ly = ys
        · obtain ⟨e1, e2⟩ := HWI.out i hw
          rw [decide_eq_true hw] at hsame
          have HSM := Lib.hid hsame
          have q1 : ((i : Int) != 0) = false := by simp; omega
          have q2 : ((lx : Int) != (ly : Int)) = false := by simp; omega
          clear hsame hw hrx hry e1 e2
          go_wp2_with fail
          refine HSM.out.mono ?_
          rintro e w7 ⟨rfl, hB7⟩
          have hW7 := hB.trans (hB7.mono hB.size)
          clear hB7
          go_wp2
          go_roundw
          case rel => exact ⟨i + 1, by omega, by go_num, hW7⟩
          case measure => simp [intOf]; omega
        · rw [decide_eq_false hw] at hsame
          have HSM := Lib.hid hsame
          clear hsame hw hrx hry
          go_wp2_with fail
          refine HSM.out.mono ?_
          rintro e w7 ⟨rfl, hB7⟩
          have hW7 := hB.trans (hB7.mono hB.size)
          clear hB7
          go_wp2
          go_roundw
          case rel => exact ⟨i + 1, by omega, by go_num, hW7⟩
          case measure => simp [intOf]; omega
      · have hint : ¬ ((i : Int) + (ly : Int) ≤ (lx : Int)) := by omega
        go_wp2_with fail
        refine (awake_any _).mono ?_
        rintro e w8 ⟨rfl, hB8⟩
        go_wp2
        go_ret
        exact ⟨rfl, upB (upB hW6 hB) hB8⟩

theorem walk (a0 : Option Addr) (len0 cap0 : Nat) (z0 : List Int) (a1 a2 a3 : Int) (w : World) (w0 : InRow .u8 w a0 len0 cap0 z0) (w1 : (Lit.int .u16 a1).wf = true) (_w2 : (Lit.int .i32 a2).wf = true) (_w3 : (Lit.int .i32 a3).wf = true) :
    Calls Try.prog 6 #[.slice a0 len0 cap0, .int .u16 a1, .int .i32 a2, .int .i32 a3] w (IsBool true w) := by
  obtain ⟨e0, g0, m0, r0, f0⟩ := w0
  have hw := wf_u16 w1
  unfold maxLen at m0
  by_cases h : 500 < len0
  · exact walkMain z0 a1 a2 a3 a0 len0 cap0 500 w e0 (by omega) g0 m0 (fun x hx => wf_u8 (f0 x hx)) (by omega) (by omega) (by rw [if_pos (by omega)]; rfl) hw.1 hw.2 r0
  · exact walkMain z0 a1 a2 a3 a0 len0 cap0 len0 w e0 (by omega) g0 m0 (fun x hx => wf_u8 (f0 x hx)) (by omega) (by omega) (by rw [if_neg (by omega)]) hw.1 hw.2 r0

/-! From the walk to the given statement. -/
set_option linter.unusedVariables false
theorem own : ownKnob Try.prog.godebug = none := by kernel_rfl
theorem laidOut : laidOutB Try.prog = true := by kernel_rfl
set_option maxRecDepth 100000 in
theorem lifted (os : Os) (started : os.Started) (H : Type) (enc : TypeId × Value → H) :
    ReturnsInHanded {} Try.checked os 6 .any (Rows.utfPartsSpec.pre6 enc Try.prog Try.f6 Rows.utfPartsRow.domain false) (Rows.utfPartsSpec.post enc Try.prog Try.f6 false true false false) := by
  refine returnsInHanded_of_change (C := Try.checked) own started (by kernel_rfl) Try.func6
    (ChangeSpec.witness6 (enc := enc) (C := Try.checked) false ⟨#[], #[.slice none 0 0, .int .u16 0, .int .i32 0, .int .i32 0], []⟩ 8 (by kernel_rfl) (by kernel_rfl) (by kernel_rfl) (by kernel_rfl)) ?_
  intro W base args ds gs before hval0 hW hcnd _
  have hval : ∀ (j : Nat) t v, Try.f6.params[j]? = some t → args[j]? = some v → Value.okWide Try.prog W .any base t v := hval0
  have hW' := hW
  obtain ⟨p, q, hA0, hV, rfl, hfz, hnd⟩ := hW
  have hA : DataW.TrodAll enc Try.prog W 0 (fun _ => true) true Try.f6.params.toList args.toList ds p := hA0
  rw [Try.params6] at hA hval
  obtain ⟨v0, vs0, d0, ds0, p0, q0, hargs, rfl, rfl, h0, r0⟩ := trodAll_cons hA
  obtain ⟨v1, vs1, d1, ds1, p1, q1, rfl, rfl, rfl, h1, r1⟩ := trodAll_cons r0
  obtain ⟨v2, vs2, d2, ds2, p2, q2, rfl, rfl, rfl, h2, r2⟩ := trodAll_cons r1
  obtain ⟨v3, vs3, d3, ds3, p3, q3, rfl, rfl, rfl, h3, r3⟩ := trodAll_cons r2
  obtain ⟨rfl, rfl, rfl⟩ := trodAll_nil r3
  obtain rfl : args = #[v0, v1, v2, v3] := by cases args; simp_all
  obtain ⟨rfl, rfl⟩ := trodVars_none hV
  obtain ⟨a0, len0, cap0, rfl⟩ := okWide_slice Try.underlying22 (hval 0 22 v0 rfl rfl)
  have k0 := h0
  have lt0 : ∀ x ∈ p0, x.block < W.heap.size := by obtain ⟨m, hm⟩ := k0; exact DataW.trod_lt m _ _ _ hm
  obtain ⟨z0, w0⟩ := in_row Try.underlying22 Try.underlying5 (by kernel_rfl) h0
  obtain ⟨a1, rfl, rfl, rfl, w1⟩ := open_int Try.underlying38 (hval 1 38 v1 rfl rfl) h1
  obtain ⟨a2, rfl, rfl, rfl, w2⟩ := open_int Try.underlying21 (hval 2 21 v2 rfl rfl) h2
  obtain ⟨a3, rfl, rfl, rfl, w3⟩ := open_int Try.underlying21 (hval 3 21 v3 rfl rfl) h3
  clear hA0 hval0
  refine (walk a0 len0 cap0 z0 a1 a2 a3 W w0 w1 w2 w3).mono fun e W' ⟨he, bel⟩ => ?_
  subst he
  exact ⟨_, rfl, _, _, _, [], _, [], hW', trodAll_mk1 (shut_bool Try.underlying4 _), (trodAll_cons_mk (Below.trod laidOut (by kernel_rfl) (of_decide_eq_true (by kernel_rfl)) k0 bel lt0) (trodAll_cons_mk (shut_int Try.underlying38 w1) (trodAll_cons_mk (shut_int Try.underlying21 w2) (trodAll_cons_mk (shut_int Try.underlying21 w3) trodAll_mk0)))), rfl, bel.frame _, fun h => by cases h⟩

theorem proved : Rows.UtfPartsSaid :=
  OpenClaim.holds_of_wide 6 Try.f6 rfl rfl rfl rfl rfl rfl rfl ⟨rfl, rfl, rfl, rfl, rfl⟩ rfl rfl rfl rfl rfl (by kernel_rfl) Try.func6 (by kernel_rfl)
    (of_decide_eq_true (by kernel_rfl)) (by unfold Func.isWrapper; first | (rw [if_pos (by decide +kernel)]; kernel_rfl) | (rw [if_neg (by decide +kernel)]; exact ⟨rfl, rfl⟩))
    (fun os started H enc _ => lifted os started H enc)
end Go.Proofs.Ytignohjphblpdaa.utfParts
