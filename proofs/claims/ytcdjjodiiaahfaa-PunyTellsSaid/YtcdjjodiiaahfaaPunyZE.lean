/-
  The document's own answer of layer 4: Decode.
-/
import Derived.Test.YtcdjjodiiaahfaaPunyZD
namespace Go.Proofs.Ytcdjjodiiaahfaa
open Go.RowKit Go.Shelf Puny

theorem own_low {w : World} {base base' : Nat} {e : TypeId} {size n : Nat} {v : Value} {xs : List Value} (h : w.ownsRow base e size v n xs) (hb : base' ≤ base) : w.ownsRow base' e size v n xs := by
  refine ⟨h.1, ?_⟩
  rcases h.2 with h | ⟨g, cap, cur, h1, h2, h3⟩
  · exact .inl h
  · exact .inr ⟨g, cap, cur, h1, Nat.le_trans hb h2, h3⟩

/-- what is left to be read -/
def XV (out : List Nat) (n i : Nat) (rest : List UInt8) (lead part : Nat) : Option (List Nat) := (insL out n i (rdL rest out.length lead part)).map (·.1)
theorem xv_start (b : List Nat) (r : List UInt8) : XV b 128 0 r 72 700 = decD b r := rfl
theorem xv_end (out : List Nat) (n i lead part : Nat) : XV out n i [] lead part = some out := by unfold XV; rw [rdL_nil]; rfl
theorem xv_none {out : List Nat} {n i lead part : Nat} {rest : List UInt8} (hr : rest ≠ []) (h : num lead 1 rest = none) : XV out n i rest lead part = none := by
  unfold XV; rw [rdL_none hr h]; simp [insL]
theorem xv_great {out : List Nat} {n i lead part d k : Nat} {rest : List UInt8} (hr : rest ≠ []) (h : num lead 1 rest = some (d, k)) (hd : ¬ d < many * (out.length + 1)) : XV out n i rest lead part = none := by
  unfold XV; rw [rdL_some hr h, if_neg hd]; simp [insL]
theorem xv_bad {out : List Nat} {n i lead part d k : Nat} {rest : List UInt8} (hr : rest ≠ []) (h : num lead 1 rest = some (d, k)) (hs : sca (n + (i + d) / (out.length + 1)) = false) : XV out n i rest lead part = none := by
  unfold XV; rw [rdL_some hr h]
  split
  · rw [insL, hs]; simp
  · simp [insL]
theorem xv_next {out : List Nat} {n i lead part d k N q : Nat} {rest : List UInt8} (hr : rest ≠ []) (h : num lead 1 rest = some (d, k)) (hd : d < many * (out.length + 1)) (hN : n + (i + d) / (out.length + 1) = N) (hq : (i + d) % (out.length + 1) = q) (hs : sca N = true) :
    XV out n i rest lead part = XV (out.take q ++ N :: out.drop q) N (q + 1) (rest.drop k) (next d part (out.length + 1)) 2 := by
  have hq2 : q < out.length + 1 := by rw [← hq]; exact Nat.mod_lt _ (by omega)
  have hl : (out.take q ++ N :: out.drop q).length = out.length + 1 := by simp; omega
  unfold XV
  rw [rdL_some hr h, if_pos hd, insL, hN, hs, hq, hl]
  simp

theorem sca_isSca (n : Nat) : isSca (n : Int) = sca n := by
  unfold isSca sca
  rw [decide_eq_decide]
  omega
/-- the loop's own state -/
def DecS (p r : List UInt8) (X : Option (List Nat)) (w : World) (at' : Nat) (v s8 s9 s10 s11 : Value) (wr : World) : Prop :=
  ∃ (out : List Nat) (nn ii lead : Nat) (first : Bool), s8 = .int .i64 (nn : Int) ∧ s9 = .int .i64 (ii : Int) ∧ s10 = .int .i64 (lead : Int) ∧ s11 = .int .i64 (at' : Int) ∧ at' ≤ r.length ∧ out.length ≤ p.length + at' ∧ ii ≤ out.length ∧ nn ≤ 1114111 ∧ lead ≤ 100000000000 ∧
    Hid ((first = true ∧ ii = 0 ∧ nn = 128 ∧ out.length = p.length) ∨ (first = false ∧ p.length < out.length)) ∧ Hid (XV out nn ii (r.drop at') lead (if first then 700 else 2) = X) ∧ wr.ownsRow w.heap.size 21 1 v out.length (cn out) ∧ Below w.heap.size w wr

theorem bs_get (p : List UInt8) {i : Nat} (h : i < p.length) : (bs p)[i]'(by rw [bs_size]; exact h) = p[i] := rfl
theorem nat8_snoc {p : List UInt8} {i : Nat} (h : i < p.length) : cn (nat8 (p.take i)) ++ [.int .i32 ((p[i].toNat : Nat) : Int)] = cn (nat8 (p.take (i + 1))) := by
  rw [take_snoc' h]; unfold cn nat8; rw [List.map_append, List.map_append]; rfl
theorem all_snoc {p : List UInt8} {i : Nat} (h : i < p.length) (ha : (p.take i).all (fun x => decide (x.toNat < 128)) = true) (hc : p[i].toNat < 128) : (p.take (i + 1)).all (fun x => decide (x.toNat < 128)) = true := by
  rw [take_snoc' h, List.all_append, ha]; simp [hc]
theorem all_not {p : List UInt8} {i : Nat} (h : i < p.length) (hc : ¬ p[i].toNat < 128) : ¬ p.all (fun x => decide (x.toNat < 128)) = true := fun e => by
  have := List.all_eq_true.1 e p[i] (List.getElem_mem h)
  simp at this
  omega
def NoneF (w : World) (e : Ending) (w' : World) : Prop := e = .returned (.tuple #[.slice none 0 0, .int .i64 40]) ∧ Below w.heap.size w w'
theorem none_f {s : ByteArray} {w w' : World} {e : Ending} (h : dt s.data.toList = none) (k : NoneF w e w') : DecodedF s w e w' := .inr ⟨h, k.1, k.2⟩
theorem some_f {s : ByteArray} {out : List Nat} {v : Value} {w w' : World} (h : dt s.data.toList = some out) (ho : w'.ownsRow w.heap.size 21 1 v out.length (cn out)) (hB : Below w.heap.size w w') : DecodedF s w (.returned (.tuple #[v, .int .i64 0])) w' := by
  obtain ⟨A, c, rfl, _, hr⟩ := own_form ho
  exact .inl ⟨out, A, c, h, rfl, hr, hB⟩

set_option maxRecDepth 100000 in
set_option maxHeartbeats 4000000 in
theorem rDecode_any (s : ByteArray) (w : World) (hs : s.size ≤ 10000) : Calls Try.prog 12 #[.string s] w (DecodedF s w) := by
  obtain ⟨i0, hi, hzz0, hzz1, hzz2⟩ := info_parts info_i32
  go_enter Try.func12, Try.ntmps12
  go_wp2_with fail
  refine (rCut_any s w (by omega)).mono ?_
  rintro e w1 ⟨p, r, hcp, rfl, hB1⟩
  have hlen : p.length + r.length ≤ 10000 := by
    have hz : s.data.toList.length ≤ 10000 := by rw [← Lib.size_eq]; exact hs
    rcases hcp with ⟨_, h2, _⟩ | ⟨h1, h2, _⟩
    · rw [h2] at hz; simp at hz; omega
    · rw [h1, h2]; simpa using hz
  have HDT := Lib.hid (dt_cut hcp)
  have hpz : (bs p).size = p.length := bs_size p
  have hrz : (bs r).size = r.length := bs_size r
  clear hcp
  go_wp2
  go_loopg [6, 7] p.length (fun g s6 s7 wr => ∃ i : Nat, s7 = .int .i64 (i : Int) ∧ i + g = p.length ∧ Hid ((p.take i).all (fun x => decide (x.toNat < 128)) = true) ∧ wr.ownsRow w.heap.size 21 1 s6 i (cn (nat8 (p.take i))) ∧ Below w.heap.size w wr)
  case atStart => exact ⟨0, rfl, by omega, Lib.hid (by simp), by simpa [nat8] using World.ownsRow_nil w1 w.heap.size 21 1, hB1⟩
  case round =>
    obtain ⟨i, rfl, hig, HA, hown, hBw⟩ := hrel
    rcases gk with _ | g
    · obtain rfl : i = p.length := by omega
      have HX : Hid (dt s.data.toList = decD (nat8 p) r) := Lib.hid (by
        have h := HA.out
        rw [List.take_length] at h
        rw [HDT.out, if_pos h])
      have hown2 := hown
      rw [List.take_length] at hown2
      have h8l : (nat8 p).length = p.length := by simp [nat8]
      clear HA HDT hown hig
      obtain ⟨X, hX⟩ : ∃ X, decD (nat8 p) r = X := ⟨_, rfl⟩
      rw [hX] at HX
      have HXV : Hid (XV (nat8 p) 128 0 (r.drop 0) 72 (if true then 700 else 2) = X) := Lib.hid (by rw [← hX]; rfl)
      clear hX
      rw [← h8l] at hown2
      go_wp2
      go_loopg [6, 8, 9, 10, 11] (r.length + 1) (fun g s6 s8 s9 s10 s11 wr => ∃ at' : Nat, at' + g = r.length + 1 ∧ DecS p r X w at' s6 s8 s9 s10 s11 wr)
      case atStart => exact ⟨0, by omega, nat8 p, 128, 0, 72, true, rfl, rfl, rfl, rfl, by omega, by omega, by omega, by omega, by omega, Lib.hid (.inl ⟨rfl, rfl, rfl, h8l⟩), HXV, hown2, hBw⟩
      case round =>
        clear hown2 hBw HXV h8l
        obtain ⟨at', hag, out, nn, ii, lead, first, rfl, rfl, rfl, rfl, hat, hol, hio, hnn, hle, HF, HXV, hown, hBw⟩ := hrel
        have hlz : out.length ≤ 10000 := by omega
        by_cases hend : at' = r.length
        · subst hend
          have HD : Hid (dt s.data.toList = some out) := Lib.hid (by
            rw [HX.out, ← HXV.out, List.drop_of_length_le (Nat.le_refl _)]; exact xv_end _ _ _ _ _)
          clear HXV
          go_wp2
          go_ret2
          exact some_f HD.out hown hBw
        · have hatl : at' < r.length := by omega
          have hatz : (at' : Int) < (r.length : Int) := by omega
          have hne : r.drop at' ≠ [] := fun e => by
            have := congrArg List.length e
            rw [List.length_drop, List.length_nil] at this
            omega
          have hcall := rRead_any (bs r) at' lead wr (by omega) (by omega) (by omega)
          rw [bs_data] at hcall
          unfold numR at hcall
          cases hnum : num lead 1 (r.drop at') with
          | none =>
            have HD : Hid (dt s.data.toList = none) := Lib.hid (by rw [HX.out, ← HXV.out]; exact xv_none hne hnum)
            rw [hnum] at hcall
            have hv : ReadV (0, 0) at' = .tuple #[.int .i64 0, .int .i64 (-1)] := rfl
            unfold Readed at hcall
            simp only [hv] at hcall
            have HC := Lib.hid hcall
            clear hcall hnum hne HXV hv
            go_wp2_with fail
            refine HC.out.mono ?_
            rintro e w2 ⟨rfl, rfl⟩
            go_wp2
            go_ret2
            exact none_f HD.out ⟨rfl, hBw⟩
          | some dk =>
            obtain ⟨d, k⟩ := dk
            rw [hnum] at hcall
            obtain ⟨hnb1, hnb2, hk0, hkl⟩ := num_back lead _ 1 d k hnum
            clear hnb1 hnb2
            rw [List.length_drop] at hkl
            unfold Readed at hcall
            by_cases hmost : d < most + 1
            · have hv : ReadV (if d < most + 1 then (d, k) else (0, 0)) at' = .tuple #[.int .i64 (d : Int), .int .i64 ((at' + k : Nat) : Int)] := by
                rw [if_pos hmost]; unfold ReadV; rw [if_neg (by simp only; omega)]
              simp only [hv] at hcall
              have HC := Lib.hid hcall
              have HNUM := Lib.hid hnum
              have HNE := Lib.hid hne
              have hd10 : d ≤ 11143348224 := by unfold most at hmost; omega
              clear hcall hnum hne hv hmost
              obtain ⟨A0, c0, hv6, hc0, hrow⟩ := own_form hown
              subst hv6
              have HLO : Hid (out.length ≤ p.length + at') := Lib.hid hol
              obtain ⟨m, hm⟩ : ∃ m, out.length = m := ⟨_, rfl⟩
              rw [hm] at hol hio hlz hc0 HF hown ⊢
              have HM := Lib.hid hm
              clear hm
              obtain ⟨V, hV⟩ : ∃ V, ii + d = V := ⟨_, rfl⟩
              obtain ⟨Q, hQ⟩ : ∃ Q, V / (m + 1) = Q := ⟨_, rfl⟩
              obtain ⟨q, hq⟩ : ∃ q, V % (m + 1) = q := ⟨_, rfl⟩
              have hqm : q ≤ m := by have := Nat.mod_lt V (show 0 < m + 1 by omega); omega
              have hQV : Q ≤ V := by rw [← hQ]; exact Nat.div_le_self _ _
              have hVz : (ii : Int) + (d : Int) = (V : Int) := by omega
              have hQz : (V : Int).tdiv ((m : Int) + 1) = (Q : Int) := by rw [Int.tdiv_eq_ediv_of_nonneg (by omega), ← hQ]; simp
              have hqz : (V : Int).tmod ((m : Int) + 1) = (q : Int) := by rw [Int.tmod_eq_emod_of_nonneg (by omega), ← hq]; simp
              have hQz2 : (V : Int) / ((m : Int) + 1) = (Q : Int) := by rw [← hQ]; simp
              have hqz2 : (V : Int) % ((m : Int) + 1) = (q : Int) := by rw [← hq]; simp
              have hV10 : V ≤ 11143360000 := by omega
              have hmn : ¬ (m : Int) + 1 = 0 := by omega
              have HBIG : Hid (¬ d < many * (m + 1) → 1114112 ≤ Q) := Lib.hid (fun h => by
                rw [← hQ]
                refine (Nat.le_div_iff_mul_le (by omega)).2 ?_
                unfold many at h
                omega)
              have HQ := Lib.hid hQ
              have Hq := Lib.hid hq
              have HVV := Lib.hid hV
              clear hV hQ hq
              obtain ⟨N, hN⟩ : ∃ N, nn + Q = N := ⟨_, rfl⟩
              have hNz : (nn : Int) + (Q : Int) = (N : Int) := by omega
              have hN10 : N ≤ 12000000000 := by omega
              have HN := Lib.hid hN
              obtain ⟨L2, hL2⟩ : ∃ L2, next d (if first then 700 else 2) (m + 1) = L2 := ⟨_, rfl⟩
              have hL2b : L2 ≤ 100000000000 := by rw [← hL2]; have := next_le d (if first then 700 else 2) (m + 1); omega
              have hcn := rNext_any d (m + 1) first wr (by omega) (by omega) (by omega)
              have e1 : (((m + 1 : Nat) : Nat) : Int) = (m : Int) + 1 := by omega
              rw [hL2, e1] at hcn
              have HCN := Lib.hid hcn
              have HL2 := Lib.hid hL2
              have hkz0 : ¬ (at' : Int) + (k : Int) < 0 := by omega
              clear hcn hL2 e1 hN
              go_upto_region 19 with (first | (go_at_call 35; refine HC.out.mono ?_; rintro e w2 ⟨rfl, rfl⟩) | fail)
              go_cut [10] from 41 to 109 (fun s10 wx => s10 = .int .i64 (L2 : Int) ∧ wx = wr)
              case first =>
                rcases HF.out with ⟨rfl, rfl, rfl, rfl⟩ | ⟨rfl, hf⟩
                · go_wp2_with fail
                  refine HCN.out.mono ?_
                  rintro e w2 ⟨rfl, rfl⟩
                  go_wp2
                  go_meet
                  exact ⟨rfl, rfl⟩
                · have hb : ((m : Int) == (p.length : Int)) = false := by simp; omega
                  have hb2 : ¬ (m : Int) = (p.length : Int) := by omega
                  have hb3 : ((m : Int) + 1 == (p.length : Int) + 1) = false := by simp; omega
                  by_cases hi0 : ii = 0
                  · subst hi0
                    by_cases hn0 : nn = 128
                    · subst hn0
                      go_wp2_with fail
                      refine HCN.out.mono ?_
                      rintro e w2 ⟨rfl, rfl⟩
                      go_wp2
                      go_meet
                      exact ⟨rfl, rfl⟩
                    · have hn1 : ((nn : Int) == 128) = false := by simp; omega
                      go_wp2_with fail
                      refine HCN.out.mono ?_
                      rintro e w2 ⟨rfl, rfl⟩
                      go_wp2
                      go_meet
                      exact ⟨rfl, rfl⟩
                  · have hi1 : ((ii : Int) == 0) = false := by simp; omega
                    go_wp2_with fail
                    refine HCN.out.mono ?_
                    rintro e w2 ⟨rfl, rfl⟩
                    go_wp2
                    go_meet
                    exact ⟨rfl, rfl⟩
              case rest =>
                obtain ⟨rfl, hwc⟩ := hcut
                rw [hwc]
                clear hwc HCN HC
                by_cases hbig : 1114111 < N
                · have hbz : (1114111 : Int) < (N : Int) := by omega
                  have hsN : sca N = false := by unfold sca; simp; omega
                  have HD : Hid (dt s.data.toList = none) := Lib.hid (by
                    rw [HX.out, ← HXV.out]
                    refine xv_bad HNE.out HNUM.out ?_
                    rw [HM.out, HVV.out, HQ.out, HN.out]
                    exact hsN)
                  clear HXV hsN
                  go_wp2_with fail
                  go_ret2
                  exact none_f HD.out ⟨rfl, hBw⟩
                · have hbz : ¬ (1114111 : Int) < (N : Int) := by omega
                  have hbz2 : (N : Int) ≤ 1114111 := by omega
                  have wN : IntKind.i32.wrap (N : Int) = (N : Int) := by simp only [IntKind.wrap, IntKind.bits, IntKind.signed]; simp; omega
                  have hcall2 := rScalar_any (N : Int) wr
                  rw [sca_isSca] at hcall2
                  cases hsN : sca N with
                  | false =>
                    have HD : Hid (dt s.data.toList = none) := Lib.hid (by
                      rw [HX.out, ← HXV.out]
                      refine xv_bad HNE.out HNUM.out ?_
                      rw [HM.out, HVV.out, HQ.out, HN.out]
                      exact hsN)
                    rw [hsN] at hcall2
                    have HSC := Lib.hid hcall2
                    clear hcall2 HXV hsN
                    go_wp2_with (first | (go_at_call 25; refine HSC.out.mono ?_; rintro e w2 ⟨rfl, rfl⟩) | fail)
                    go_ret2
                    exact none_f HD.out ⟨rfl, hBw⟩
                  | true =>
                    have hlm : d < many * (m + 1) := by
                      by_cases h : d < many * (m + 1)
                      · exact h
                      · have := HBIG.out h; have := HN.out; omega
                    have HXN : Hid (XV (out.take q ++ N :: out.drop q) N (q + 1) (r.drop (at' + k)) L2 2 = X) := Lib.hid (by
                      rw [← HXV.out, xv_next HNE.out HNUM.out (by rw [HM.out]; exact hlm) (by rw [HM.out, HVV.out, HQ.out, HN.out]) (by rw [HM.out, HVV.out, Hq.out]) hsN, HM.out, HL2.out, List.drop_drop])
                    rw [hsN] at hcall2
                    have HSC := Lib.hid hcall2
                    have hakr : at' + k ≤ r.length := by omega
                    have hpm : p.length < m + 1 := by rcases HF.out with ⟨_, _, _, h⟩ | ⟨_, h⟩ <;> omega
                    have HFIN : Hid (∀ (v3 : Value) (wz : World), wz.ownsRow wr.heap.size 21 1 v3 (0 + q + 1 + (m - q)) ((([] ++ cn (out.take q)) ++ [.int .i32 (N : Int)]) ++ cn (out.drop q)) → Below wr.heap.size wr wz →
                        DecS p r X w (at' + k) v3 (.int .i64 (N : Int)) (.int .i64 ((q : Int) + 1)) (.int .i64 (L2 : Int)) (.int .i64 ((at' : Int) + (k : Int))) wz) := Lib.hid (fun v3 wz ho hb => by
                      have hl : (out.take q ++ N :: out.drop q).length = m + 1 := by rw [List.length_append, List.length_cons, List.length_take, List.length_drop, HM.out]; omega
                      refine ⟨out.take q ++ N :: out.drop q, N, q + 1, L2, false, rfl, by go_num, rfl, by go_num, hakr, by rw [hl]; have := HLO.out; rw [HM.out] at this; omega, by rw [hl]; omega, by omega, hL2b, Lib.hid (.inr ⟨rfl, by rw [hl]; exact hpm⟩), HXN, ?_, upB hBw hb⟩
                      rw [hl]
                      have e3 : 0 + q + 1 + (m - q) = m + 1 := by omega
                      rw [e3] at ho
                      have e4 : (([] ++ cn (out.take q)) ++ [.int .i32 (N : Int)]) ++ cn (out.drop q) = cn (out.take q ++ N :: out.drop q) := by
                        unfold cn; rw [List.map_append, List.map_cons, List.nil_append, List.append_assoc]; rfl
                      rw [e4] at ho
                      exact own_low ho hBw.size)
                    have hqc : (q : Int) ≤ (c0 : Int) := by omega
                    have hqmz : (q : Int) ≤ (m : Int) := by omega
                    have htl : (cn (out.take q)).length = q * 1 := by rw [cn, List.length_map, List.length_take, HM.out]; omega
                    have hdl : (cn (out.drop q)).length = (m - q) * 1 := by rw [cn, List.length_map, List.length_drop, HM.out]; omega
                    have HTL := Lib.hid htl
                    have HDL := Lib.hid hdl
                    have hrt := row_take hrow q
                    clear hcall2 HXV hsN HXN hpm hakr htl hdl
                    go_upto_region 26 with (first | (go_at_call 25; refine HSC.out.mono ?_; rintro e w2 ⟨rfl, rfl⟩) | fail)
                    go_upto_region 27 with (first
                      | (at_builtin; refine wpList_append_row _ rfl _ _ 22 rfl wr.heap.size 21 i0 (.int .i32 0) 1 4 Try.underlying22 hi hzz0 hzz1 hzz2 rfl (by decide) (.slice none 0 0) 0 [] rfl (World.ownsRow_nil wr wr.heap.size 21 1) wr.heap.size _ q _ (cn (out.take q)) rfl HTL.out hrt (one_cn _) (by unfold maxLen; omega) (by omega) (Nat.le_refl _) ?_; intro v1 wa howna hga)
                      | fail)
                    have hba : Below wr.heap.size wr wa := Below.grown (Below.refl _ _) hga (Nat.le_refl _) (fun k hk => by cases hk)
                    clear hga hrt
                    go_upto_region 28 with (first
                      | (at_builtin; refine wpList_append_row _ rfl _ _ 22 rfl wr.heap.size 21 i0 (.int .i32 0) 1 4 Try.underlying22 hi hzz0 hzz1 hzz2 rfl (by decide) v1 (0 + q) ([] ++ cn (out.take q)) rfl (howna.alloc _) _ _ _ _ [.int .i32 (N : Int)] rfl rfl (row_new' wa _ _ _ rfl) (by simp [Value.oneCell']) (by unfold maxLen; omega) (by omega) (by have := hba.size; simp; omega) ?_; intro v2 wb hownb hgb)
                      | fail)
                    have hbb : Below wr.heap.size wr wb := Below.grown (hba.alloc hba.size _) hgb (by rw [World.size_alloc]; have := hba.size; omega) (fun k hk => (howna.lt k hk).1)
                    clear hgb howna hba
                    have hrb := hrow.go hbb
                    by_cases hqe : q = m
                    · have hdn : out.drop q = [] := List.drop_of_length_le (by rw [HM.out]; omega)
                      have HDN : Hid (cn (out.drop q) = []) := Lib.hid (by rw [hdn]; rfl)
                      have hFIN2 : Hid (∀ (v3 : Value) (wz : World), wz.ownsRow wr.heap.size 21 1 v3 (0 + q + 1 + 0) ((([] ++ cn (out.take q)) ++ [.int .i32 (N : Int)]) ++ []) → Below wr.heap.size wr wz →
                        DecS p r X w (at' + k) v3 (.int .i64 (N : Int)) (.int .i64 ((q : Int) + 1)) (.int .i64 (L2 : Int)) (.int .i64 ((at' : Int) + (k : Int))) wz) := Lib.hid (fun v3 wz ho hb => HFIN.out v3 wz (by rw [HDN.out, show m - q = 0 by omega]; exact ho) hb)
                      subst hqe
                      clear hdn HDN HFIN HDL
                      by_cases hcq : c0 = q
                      · have hck0 : (c0 == q) = true := by simp [hcq]
                        go_wp2_with (first
                          | (at_builtin; refine wpList_append_row _ rfl _ _ 22 rfl wr.heap.size 21 i0 (.int .i32 0) 1 4 Try.underlying22 hi hzz0 hzz1 hzz2 rfl (by decide) v2 (0 + q + 1) (([] ++ cn (out.take q)) ++ [.int .i32 (N : Int)]) rfl hownb wb.heap.size _ 0 _ [] rfl rfl Row.empty (by simp) (by unfold maxLen; omega) (by omega) hbb.size ?_; intro v3 wc hownc hgc)
                          | fail)
                        have hbc : Below wr.heap.size wr wc := Below.grown hbb hgc hbb.size (fun k hk => (hownb.lt k hk).1)
                        go_roundg (r.length + 1 - (at' + k))
                        case measure => omega
                        case rel => exact ⟨at' + k, by omega, hFIN2.out _ _ hownc hbc⟩
                      · have hck1 : (c0 == q) = false := by simp [hcq]
                        go_wp2_with (first
                          | (at_builtin; refine wpList_append_row _ rfl _ _ 22 rfl wr.heap.size 21 i0 (.int .i32 0) 1 4 Try.underlying22 hi hzz0 hzz1 hzz2 rfl (by decide) v2 (0 + q + 1) (([] ++ cn (out.take q)) ++ [.int .i32 (N : Int)]) rfl hownb wb.heap.size _ 0 _ [] rfl rfl Row.empty (by simp) (by unfold maxLen; omega) (by omega) hbb.size ?_; intro v3 wc hownc hgc)
                          | fail)
                        have hbc : Below wr.heap.size wr wc := Below.grown hbb hgc hbb.size (fun k hk => (hownb.lt k hk).1)
                        go_roundg (r.length + 1 - (at' + k))
                        case measure => omega
                        case rel => exact ⟨at' + k, by omega, hFIN2.out _ _ hownc hbc⟩
                    · have hck : (c0 == q) = false := by simp; omega
                      have hck' : ¬ c0 = q := by omega
                      have hrd := (hrb.sub (l := q) (n := m - q) (cap := c0) (m := q) (by rw [cn, List.length_map, HM.out]; omega) (fun _ => by omega)).2 rfl
                      have e5 : ((cn out).drop q).take (m - q) = cn (out.drop q) := by
                        unfold cn
                        rw [← List.map_drop, List.take_of_length_le (by rw [List.length_map, List.length_drop, HM.out]; omega)]
                      rw [e5] at hrd
                      clear e5
                      go_wp2_with (first
                        | (at_builtin; refine wpList_append_row _ rfl _ _ 22 rfl wr.heap.size 21 i0 (.int .i32 0) 1 4 Try.underlying22 hi hzz0 hzz1 hzz2 rfl (by decide) v2 (0 + q + 1) (([] ++ cn (out.take q)) ++ [.int .i32 (N : Int)]) rfl hownb wb.heap.size _ (m - q) _ (cn (out.drop q)) rfl HDL.out hrd (one_cn _) (by unfold maxLen; omega) (by omega) hbb.size ?_; intro v3 wc hownc hgc)
                        | fail)
                      have hbc : Below wr.heap.size wr wc := Below.grown hbb hgc hbb.size (fun k hk => (hownb.lt k hk).1)
                      go_roundg (r.length + 1 - (at' + k))
                      case measure => omega
                      case rel => exact ⟨at' + k, by omega, HFIN.out _ _ hownc hbc⟩
            · have hv : ReadV (if d < most + 1 then (d, k) else (0, 0)) at' = .tuple #[.int .i64 0, .int .i64 (-1)] := by rw [if_neg hmost]; rfl
              have HD : Hid (dt s.data.toList = none) := Lib.hid (by
                rw [HX.out, ← HXV.out]
                refine xv_great hne hnum ?_
                have : many * (out.length + 1) ≤ 1114112 * 10001 := Nat.mul_le_mul_left _ (by omega)
                unfold most at hmost
                omega)
              simp only [hv] at hcall
              have HC := Lib.hid hcall
              clear hcall hnum hne HXV hv hmost
              go_wp2_with fail
              refine HC.out.mono ?_
              rintro e w2 ⟨rfl, rfl⟩
              go_wp2
              go_ret2
              exact none_f HD.out ⟨rfl, hBw⟩
    · have hip : i < p.length := by omega
      have hipz : (i : Int) < (p.length : Int) := by omega
      have hgc := bs_get p hip
      by_cases hc : p[i].toNat < 128
      · have HA2 := Lib.hid (all_snoc hip HA.out hc)
        have hsn := nat8_snoc hip
        have hz : ¬ (127 : Int) < (((bs p)[i]'(by rw [bs_size]; exact hip)).toNat : Int) := by rw [hgc]; omega
        have hz2 : (((bs p)[i]'(by rw [bs_size]; exact hip)).toNat : Int) ≤ 127 := by rw [hgc]; omega
        have wz' : IntKind.i32.wrap ((((bs p)[i]'(by rw [bs_size]; exact hip)).toNat : Nat) : Int) = (((bs p)[i]'(by rw [bs_size]; exact hip)).toNat : Int) := by
          simp only [IntKind.wrap, IntKind.bits, IntKind.signed]
          simp
          omega
        have HSN : Hid (cn (nat8 (p.take i)) ++ [.int .i32 ((((bs p)[i]'(by rw [bs_size]; exact hip)).toNat : Nat) : Int)] = cn (nat8 (p.take (i + 1)))) := Lib.hid (by rw [hgc]; exact hsn)
        clear hgc hsn hc
        go_wp2_with (first
          | (at_builtin; refine wpList_append_row _ rfl _ _ 22 rfl w.heap.size 21 i0 (.int .i32 0) 1 4 Try.underlying22 hi hzz0 hzz1 hzz2 rfl (by decide) _ _ _ rfl (hown.alloc _) _ _ _ _ _ rfl rfl (row_new' wr _ _ _ rfl) (by simp [Value.oneCell']) (by unfold maxLen; omega) (by omega) (by have := hBw.size; simp; omega) ?_; intro v2 w2 hown2 hg2)
          | fail)
        have hBw2 : Below w.heap.size w w2 := Below.grown (hBw.alloc hBw.size _) hg2 (by rw [World.size_alloc]; have := hBw.size; omega) (fun k hk => (hown.lt k hk).1)
        go_roundg g
        case measure => omega
        case rel => exact ⟨i + 1, by go_num, by omega, HA2, by rw [← HSN.out]; exact hown2, hBw2⟩
      · have hz : (127 : Int) < (((bs p)[i]'(by rw [bs_size]; exact hip)).toNat : Int) := by rw [hgc]; omega
        have HD : Hid (dt s.data.toList = none) := Lib.hid (by rw [HDT.out, if_neg (all_not hip hc)])
        clear hgc hc
        go_wp2
        go_ret2
        exact none_f HD.out ⟨rfl, hBw⟩
end Go.Proofs.Ytcdjjodiiaahfaa
