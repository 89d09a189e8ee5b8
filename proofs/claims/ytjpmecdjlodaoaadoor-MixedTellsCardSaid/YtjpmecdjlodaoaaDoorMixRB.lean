/-
  fasciaref10: Level, Digits, Check.
-/
import Derived.Test.YtjpmecdjlodaoaaDoorMixRA
namespace Go.Proofs.YtjpmecdjlodaoaaDoor.Mix
open Go.RowKit Ucd Rul

theorem ofR_only (p : Nat → Bool) (a b c : Nat) (ks : List Int) (hk : ∀ s : Nat, (ks.any (fun k => k.toNat == s)) = (s == a || s == b || s == c)) : ofR (scr p) a b c = only p ks := by
  unfold ofR scr only
  rw [List.all_map, List.all_filter]
  congr 1
  funext s
  rw [hk s]
  show (!p s || ((s : Int) == (a : Int) || (s : Int) == (b : Int) || (s : Int) == (c : Int))) = _
  congr 1
  have e : ∀ x : Nat, ((s : Int) == (x : Int)) = (s == x) := fun x => by
    rw [Bool.eq_iff_iff, beq_iff_eq, beq_iff_eq]
    omega
  rw [e, e, e]
theorem of_8910 (p : Nat → Bool) : ofR (scr p) 8 9 10 = only p [8, 9, 10] := ofR_only p 8 9 10 [8, 9, 10] fun s => by
  simp only [List.any_cons, List.any_nil, Bool.or_false]
  rw [Bool.eq_iff_iff]
  simp
  omega
theorem of_811 (p : Nat → Bool) : ofR (scr p) 8 11 11 = only p [8, 11] := ofR_only p 8 11 11 [8, 11] fun s => by
  simp only [List.any_cons, List.any_nil, Bool.or_false]
  rw [Bool.eq_iff_iff]
  simp
  omega
theorem togR_tog (p : Nat → Bool) : togR (scr p) = tog p := by
  unfold togR tog east
  rw [of_8910, of_811, Bool.or_assoc]
  congr 1
  exact decide_eq_decide.2 (by omega)
theorem bare_scr (p : Nat → Bool) : (scr p).filter (fun x => x != 2) = scr (sub p [2]) := by
  unfold scr
  rw [List.filter_map, List.filter_filter]
  congr 1
  refine List.filter_congr fun s _ => ?_
  unfold sub
  rw [Bool.and_comm]
  congr 1
  simp only [List.any_cons, List.any_nil, Bool.or_false, Function.comp_apply]
  rw [Bool.eq_iff_iff]
  simp
  omega
theorem last_test {p : Nat → Bool} (h : tog p = false) : (togR (scr (sub p [2])) && decide ((scr (sub p [2])).length < (scr p).length) && (ofR (scr (sub p [2])) 8 9 10 || ofR (scr (sub p [2])) 8 11 11)) = east (sub p [2]) := by
  have e1 : (ofR (scr (sub p [2])) 8 9 10 || ofR (scr (sub p [2])) 8 11 11) = east (sub p [2]) := by rw [of_8910, of_811]; rfl
  rw [e1, togR_tog]
  cases he : east (sub p [2]) with
  | false => rw [Bool.and_false]
  | true =>
    have ht : tog (sub p [2]) = true := by unfold tog; rw [he, Bool.or_true]
    have hl : (scr (sub p [2])).length < (scr p).length := by
      rw [← bare_scr]
      rcases Nat.lt_or_ge ((scr p).filter (fun x => x != 2)).length (scr p).length with h1 | h1
      · exact h1
      · exfalso
        have h2 : (scr p).filter (fun x => x != 2) = scr p := by
          apply List.filter_eq_self.2
          exact List.length_filter_eq_length_iff.1 (Nat.le_antisymm (List.length_filter_le ..) h1)
        rw [bare_scr] at h2
        have h3 : east p = true := by
          rw [← he]
          unfold east
          rw [← of_8910, ← of_811, ← of_8910, ← of_811, h2]
        unfold tog at h
        rw [h3, Bool.or_true] at h
        cases h
    rw [ht, decide_eq_true hl]
    rfl
theorem lv_ref (p : Nat → Bool) : lv p = if togR (scr p) = true then 2 else if (togR (scr (sub p [2])) && decide ((scr (sub p [2])).length < (scr p).length) && (ofR (scr (sub p [2])) 8 9 10 || ofR (scr (sub p [2])) 8 11 11)) = true then 3 else 4 := by
  rw [togR_tog]
  unfold lv
  cases h : tog p with
  | true => rfl
  | false => rw [last_test h]
theorem asc_take (l : List Int) (k : Nat) (hk : k < l.length) : asc (l.take (k + 1)) = (asc (l.take k) && (decide (0 ≤ l[k]!) && decide (l[k]! < 128))) := by
  unfold asc
  rw [take_snoc l k hk, List.all_append]
  simp
theorem fil_take (xs : List Int) (k : Nat) (hk : k < xs.length) : (xs.take (k + 1)).filter (fun x => x != 2) = (xs.take k).filter (fun x => x != 2) ++ (if xs[k]! = 2 then [] else [xs[k]!]) := by
  rw [take_snoc xs k hk, List.filter_append]
  congr 1
  by_cases h : xs[k]! = 2
  · rw [if_pos h, h]; rfl
  · rw [if_neg h, List.filter_cons, if_pos (by simpa using h)]; rfl
set_option maxRecDepth 100000 in
set_option maxHeartbeats 4000000 in
theorem RefLevel_any (l : List Int) (A : Option Addr) (n cap : Nat) (w : World) (hn : l.length = n) (hn1 : n ≤ 1000000) (hC : C32 l) (hr : Row w w.heap.size A (cl .i32 l)) : Calls Tryd.prog 11 #[.slice A n cap] w (Tells (.int .u8 (lev l)) w) := by
  have HN := Lib.hid hn
  have HSC := Lib.hid (RefScripts_any l A n cap w hn hn1 hC hr)
  have HLV := Lib.hid (lv_ref (sb l))
  clear hn hC
  go_enter Tryd.func11, Tryd.ntmps11
  go_wp2_with fail
  go_loopg [3, 4] n (fun m s3 s4 wr => ∃ k : Nat, s4 = .int .i64 (k : Int) ∧ s3 = .bool (asc (l.take k)) ∧ m = n - k ∧ k ≤ n ∧ wr = w)
  case atStart => exact ⟨0, rfl, rfl, rfl, Nat.zero_le _, rfl⟩
  case round =>
    obtain ⟨k, rfl, rfl, rfl, hk, rfl⟩ := hrel
    by_cases hlt : k < n
    · have hltz : (k : Int) < (n : Int) := by omega
      obtain ⟨b, o, rfl, hb', hcc⟩ := hr.at_ (by have := HN.out; rw [List.length_map]; omega)
      have c0 := row_cell hcc k (by rw [HN.out]; exact hlt)
      have HA := Lib.hid (asc_take l k (by rw [HN.out]; exact hlt))
      generalize l[k]! = r at c0 HA
      generalize asc (l.take k) = q at HA ⊢
      clear hcc
      cases q with
      | false =>
        go_wp2_with fail
        go_roundg (n - (k + 1))
        case measure => omega
        case rel => exact ⟨k + 1, by go_num, by rw [HA.out]; rfl, rfl, by omega, rfl⟩
      | true =>
        by_cases h0 : 0 ≤ r
        · have hd : decide (0 ≤ r) = true := decide_eq_true h0
          have HA2 : Hid (asc (l.take (k + 1)) = decide (r < 128)) := Lib.hid (by rw [HA.out, hd]; rfl)
          go_wp2_with fail
          go_roundg (n - (k + 1))
          case measure => omega
          case rel => exact ⟨k + 1, by go_num, by rw [HA2.out], rfl, by omega, rfl⟩
        · have hd : decide (0 ≤ r) = false := decide_eq_false h0
          have HA2 : Hid (asc (l.take (k + 1)) = false) := Lib.hid (by rw [HA.out, hd]; rfl)
          go_wp2_with fail
          go_roundg (n - (k + 1))
          case measure => omega
          case rel => exact ⟨k + 1, by go_num, by rw [HA2.out], rfl, by omega, rfl⟩
    · obtain rfl : k = n := by omega
      have hltz : ¬ ((k : Nat) : Int) < (k : Int) := by omega
      rw [List.take_of_length_le (by rw [HN.out]; exact Nat.le_refl _)]
      have HV : Hid (lev l = if asc l = true then 1 else lv (sb l)) := Lib.hid rfl
      generalize asc l = q at HV ⊢
      cases q with
      | true =>
        go_wp2_with fail
        go_ret
        exact ⟨by rw [HV.out]; rfl, Below.refl _ _⟩
      | false =>
        have hxs := scrK_len (sb l) 12
        change (scripts l).length ≤ 12 at hxs
        have HB := Lib.hid (bare_scr (sb l))
        change Hid ((scripts l).filter _ = _) at HB
        change Hid (_ = if togR (scripts l) = true then _ else if (_ && decide (_ < (scripts l).length) && _) = true then _ else _) at HLV
        generalize scripts l = xs at HSC hxs HB HLV
        generalize scr (sub (sb l) [2]) = ys at HB HLV
        obtain ⟨N, hN⟩ : ∃ N, xs.length = N := ⟨_, rfl⟩
        have HNN := Lib.hid hN
        have HX : Hid (∀ W e w', Row8 xs W e w' → ∃ A c, e = .returned (.slice A N c) ∧ Row w' w'.heap.size A (cl .u8 xs) ∧ Below W.heap.size W w') := Lib.hid (fun W e w' ⟨A, c, h1, h2, h3⟩ => ⟨A, c, by rw [h1, hN], h2, h3⟩)
        rw [hN] at hxs HLV
        clear hN
        go_upto_region 9 with (first | (go_at_call 9; refine HSC.out.mono ?_; intro e w1 hrw; obtain ⟨A1, c1, rfl, hr1, hB1⟩ := HX.out _ _ _ hrw) | fail)
        have HT := Lib.hid (RefTog_any xs A1 N c1 w1 HNN.out (by omega) hr1)
        generalize togR xs = t at HT HLV
        cases t with
        | true =>
          go_wp2_with (first | (go_at_call 26; refine HT.out.mono ?_; rintro e w2 ⟨rfl, hB2⟩) | fail)
          go_ret
          exact ⟨by rw [HV.out, if_neg (by decide), HLV.out]; rfl, upB hB1 hB2⟩
        | false =>
          go_wp2_with (first | (go_at_call 26; refine HT.out.mono ?_; rintro e w2 ⟨rfl, hB2⟩; have hr2 := upR hr1 hB2; have hB2' := upB hB1 hB2) | fail)
          clear HT HX HSC
          go_loopg [6, 7] N (fun m s6 s7 wr => ∃ (k : Nat) (A : Option Addr) (c : Nat), s7 = .int .i64 (k : Int) ∧ s6 = .slice A ((xs.take k).filter (fun x => x != 2)).length c ∧ m = N - k ∧ k ≤ N ∧ wr.ownsRow w2.heap.size 5 1 (.slice A ((xs.take k).filter (fun x => x != 2)).length c) ((xs.take k).filter (fun x => x != 2)).length (cl .u8 ((xs.take k).filter (fun x => x != 2))) ∧ Below w2.heap.size w2 wr)
          case atStart => exact ⟨0, none, 0, rfl, rfl, rfl, Nat.zero_le _, World.ownsRow_nil _ _ _ _, Below.refl _ _⟩
          case round =>
            obtain ⟨k, A2, c2, rfl, rfl, rfl, hk, hO, hB⟩ := hrel
            have hlen : ((xs.take k).filter (fun x => x != 2)).length ≤ k := Nat.le_trans (List.length_filter_le ..) (by rw [List.length_take]; omega)
            by_cases hlt : k < N
            · have hltz : (k : Int) < (N : Int) := by omega
              obtain ⟨b, o, rfl, hb', hcc⟩ := (hr2.below hB).at_ (by have := HNN.out; rw [List.length_map]; omega)
              have c0 := cell8 hcc k (by rw [HNN.out]; exact hlt)
              have HF := Lib.hid (fil_take xs k (by rw [HNN.out]; exact hlt))
              generalize xs[k]! = y at c0 HF
              generalize (xs.take k).filter (fun x => x != 2) = zs at hO hlen HF ⊢
              clear hcc
              by_cases hy : y = 2
              · have HS : Hid ((xs.take (k + 1)).filter (fun x => x != 2) = zs) := Lib.hid (by rw [HF.out, if_pos hy, List.append_nil])
                subst hy
                go_wp2_with fail
                go_roundg (N - (k + 1))
                case measure => omega
                case rel => exact ⟨k + 1, A2, c2, by go_num, by rw [HS.out], rfl, by omega, by rw [HS.out]; exact hO, hB⟩
              · have HS : Hid ((xs.take (k + 1)).filter (fun x => x != 2) = zs ++ [y]) := Lib.hid (by rw [HF.out, if_neg hy])
                have hyb : (y != 2) = true := by simpa using hy
                clear hy
                obtain ⟨n1, hn⟩ : ∃ n, zs.length = n := ⟨_, rfl⟩
                rw [hn] at hO hlen ⊢
                have HNn := Lib.hid hn
                clear hn
                go_wp2_with (first
                  | (at_builtin; (refine wpList_app8 w2 wr (by rfl) _ _ (by rfl) (.slice A2 n1 c2) n1 (n1 + 1) zs y (by rfl) hO hB (by rfl) rfl (by omega) ?_; intro A3 c3 w3 hO3 hB3)) | fail)
                go_roundg (N - (k + 1))
                case measure => omega
                case rel =>
                  refine ⟨k + 1, A3, c3, by go_num, ?_, rfl, by omega, ?_, hB3⟩
                  · rw [HS.out, List.length_append, HNn.out]; rfl
                  · rw [HS.out, List.length_append, HNn.out]; exact hO3
            · obtain rfl : k = N := by omega
              have hltz : ¬ ((k : Nat) : Int) < (k : Int) := by omega
              rw [List.take_of_length_le (by rw [HNN.out]; exact Nat.le_refl _), HB.out] at hO hlen ⊢
              have hrb := own_row hO
              have hBB := hB2'.trans (hB.mono hB2'.size)
              obtain ⟨M, hM⟩ : ∃ M, ys.length = M := ⟨_, rfl⟩
              have HT2 := Lib.hid (RefTog_any ys A2 M c2 wr hM (by omega) hrb)
              have H1 := Lib.hid (fun W (h : Below wr.heap.size wr W) => of_any 8 9 10 ys A2 M c2 W hM (by omega) (upR hrb h))
              have H2 := Lib.hid (fun W (h : Below wr.heap.size wr W) => of_any 8 11 11 ys A2 M c2 W hM (by omega) (upR hrb h))
              rw [hM] at HLV hlen ⊢
              generalize togR ys = t1 at HT2 HLV
              generalize ofR ys 8 9 10 = t2 at H1 HLV
              generalize ofR ys 8 11 11 = t3 at H2 HLV
              clear hM hO hrb
              cases t1 with
              | false =>
                go_wp2_with (first | (go_at_call 26; refine HT2.out.mono ?_; rintro e w3 ⟨rfl, hB3⟩) | fail)
                go_ret
                exact ⟨by rw [HV.out, if_neg (by decide), HLV.out]; rfl, upB hBB hB3⟩
              | true =>
                by_cases hlt2 : M < k
                · have hd : decide (M < k) = true := decide_eq_true hlt2
                  have hz : (M : Int) < (k : Int) := by omega
                  cases t2 with
                  | true =>
                    go_wp2_with (first | (go_at_call 26; refine HT2.out.mono ?_; rintro e w3 ⟨rfl, hB3⟩) | (go_at_call 27; refine (H1.out _ hB3).mono ?_; rintro e w4 ⟨rfl, hB4⟩) | fail)
                    go_ret
                    exact ⟨by rw [HV.out, if_neg (by decide), HLV.out, hd]; rfl, upB (upB hBB hB3) hB4⟩
                  | false =>
                    have hB3x := hBB
                    cases t3 with
                    | true =>
                      go_wp2_with (first | (go_at_call 26; refine HT2.out.mono ?_; rintro e w3 ⟨rfl, hB3⟩) | (go_at_call 27; have hB4' := upB hB3 hB4; refine (H2.out _ hB4').mono ?_; rintro e w5 ⟨rfl, hB5⟩) | (go_at_call 27; refine (H1.out _ hB3).mono ?_; rintro e w4 ⟨rfl, hB4⟩) | fail)
                      go_ret
                      exact ⟨by rw [HV.out, if_neg (by decide), HLV.out, hd]; rfl, upB (upB hBB hB4') hB5⟩
                    | false =>
                      go_wp2_with (first | (go_at_call 26; refine HT2.out.mono ?_; rintro e w3 ⟨rfl, hB3⟩) | (go_at_call 27; have hB4' := upB hB3 hB4; refine (H2.out _ hB4').mono ?_; rintro e w5 ⟨rfl, hB5⟩) | (go_at_call 27; refine (H1.out _ hB3).mono ?_; rintro e w4 ⟨rfl, hB4⟩) | fail)
                      go_ret
                      exact ⟨by rw [HV.out, if_neg (by decide), HLV.out, hd]; rfl, upB (upB hBB hB4') hB5⟩
                · have hd : decide (M < k) = false := decide_eq_false hlt2
                  have hz : decide ((M : Int) < (k : Int)) = false := decide_eq_false (by omega)
                  clear hlt2
                  go_wp2_with (first | (go_at_call 26; refine HT2.out.mono ?_; rintro e w3 ⟨rfl, hB3⟩) | fail)
                  go_ret
                  exact ⟨by rw [HV.out, if_neg (by decide), HLV.out, hd]; rfl, upB hBB hB3⟩
set_option maxRecDepth 100000 in
set_option maxHeartbeats 1000000 in
theorem RefDigits_any (l : List Int) (A : Option Addr) (n cap : Nat) (w : World) (hn : l.length = n) (hn1 : n ≤ 1000000) (hC : C32 l) (hr : Row w w.heap.size A (cl .i32 l)) : Calls Tryd.prog 13 #[.slice A n cap] w (IsB (dgs l) w) := by
  have HN := Lib.hid hn
  have HC := Lib.hid hC
  clear hn hC
  go_enter Tryd.func13, Tryd.ntmps13
  go_wp2_with fail
  go_loopg [3, 4] n (fun m s3 s4 wr => ∃ (k : Nat) (s : Int), s4 = .int .i64 (k : Int) ∧ s3 = .int .u8 s ∧ m = n - k ∧ k ≤ n ∧ Hid (OneS (l.take k) s) ∧ Below w.heap.size w wr)
  case atStart => exact ⟨0, 0, rfl, rfl, rfl, Nat.zero_le _, Lib.hid oneS_nil, Below.refl _ _⟩
  case round =>
    obtain ⟨k, s, rfl, rfl, rfl, hk, HS, hB⟩ := hrel
    by_cases hlt : k < n
    · have hltz : (k : Int) < (n : Int) := by omega
      obtain ⟨b, o, rfl, hb', hcc⟩ := (hr.below hB).at_ (by have := HN.out; rw [List.length_map]; omega)
      have c0 := row_cell hcc k (by rw [HN.out]; exact hlt)
      have HT := Lib.hid (take_snoc l k (by rw [HN.out]; exact hlt))
      have HM := Lib.hid (mems (l := l) (i := k) (by rw [HN.out]; exact hlt))
      have hc := HC.out _ HM.out
      obtain ⟨r, hr0⟩ : ∃ r, l[k]! = r := ⟨_, rfl⟩
      rw [hr0] at c0 HT HM hc
      have HO := Lib.hid (fun w => RefOf_any r w hc.1 hc.2)
      have HF := fldD (of r)
      have HZ : Hid (dg r = g (of r) 5) := Lib.hid rfl
      generalize of r = p at HO HF HZ
      generalize g p 5 = z at HF HZ
      clear hcc hr0 hc
      by_cases hz : z = 0
      · have HS2 : Hid (OneS (l.take (k + 1)) s) := Lib.hid (by rw [HT.out]; exact oneS_zero HS.out (HZ.out.trans hz))
        subst hz
        go_wp2_with (first | (go_at_call 29; refine (HO.out _).mono ?_; rintro e w2 ⟨rfl, hB2⟩) | fail)
        go_roundg (n - (k + 1))
        case measure => omega
        case rel => exact ⟨k + 1, s, by go_num, rfl, rfl, by omega, HS2, upB hB hB2⟩
      · have hzb : (z != 0) = true := by simpa using hz
        by_cases hs : s = 0
        · have HS2 : Hid (OneS (l.take (k + 1)) z) := Lib.hid (by rw [HT.out, ← HZ.out]; exact oneS_next HS.out (.inl hs))
          subst hs
          clear hz
          go_wp2_with (first | (go_at_call 29; refine (HO.out _).mono ?_; rintro e w2 ⟨rfl, hB2⟩) | fail)
          go_roundg (n - (k + 1))
          case measure => omega
          case rel => exact ⟨k + 1, z, by go_num, rfl, rfl, by omega, HS2, upB hB hB2⟩
        · by_cases hsz : z = s
          · have HS2 : Hid (OneS (l.take (k + 1)) z) := Lib.hid (by rw [HT.out, ← HZ.out]; exact oneS_next HS.out (.inr (by rw [HZ.out]; exact hsz.symm)))
            subst hsz
            have hsb : (z != z) = false := by simp
            clear hz hs
            go_wp2_with (first | (go_at_call 29; refine (HO.out _).mono ?_; rintro e w2 ⟨rfl, hB2⟩) | fail)
            go_roundg (n - (k + 1))
            case measure => omega
            case rel => exact ⟨k + 1, z, by go_num, rfl, rfl, by omega, HS2, upB hB hB2⟩
          · have HQ : Hid (dgs l = false) := Lib.hid (oneS_bad HS.out (fun a ha => List.mem_of_mem_take ha) HM.out (by rw [HZ.out]; exact hz) hs (by rw [HZ.out]; exact fun e => hsz e.symm))
            have hs0 : (s != 0) = true := by simpa using hs
            have hsb : (z != s) = true := by simpa using hsz
            clear hz hs hsz
            go_wp2_with (first | (go_at_call 29; refine (HO.out _).mono ?_; rintro e w2 ⟨rfl, hB2⟩) | fail)
            go_ret
            exact ⟨by rw [HQ.out]; rfl, upB hB hB2⟩
    · obtain rfl : k = n := by omega
      have hltz : ¬ ((k : Nat) : Int) < (k : Int) := by omega
      have HQ : Hid (dgs l = true) := Lib.hid (by
        have := HS.out
        rw [List.take_of_length_le (by rw [HN.out]; exact Nat.le_refl _)] at this
        exact oneS_end this)
      go_wp2_with fail
      go_ret
      exact ⟨by rw [HQ.out]; rfl, hB⟩
set_option maxRecDepth 100000 in
set_option maxHeartbeats 1000000 in
theorem RefCheck_any (l : List Int) (A : Option Addr) (n c : Nat) (w : World) (hn : l.length = n) (hn1 : n ≤ 1000000) (hC : C32 l) (hr : Row w w.heap.size A (cl .i32 l)) : Calls Tryd.prog 15 #[.slice A n c] w (Tells (.int .u8 (chk l)) w) := by
  have HL := Lib.hid (RefLevel_any l A n c w hn hn1 hC hr)
  have HD := Lib.hid (fun W (h : Below w.heap.size w W) => RefDigits_any l A n c W hn hn1 hC (upR hr h))
  unfold chk
  generalize lev l = y at HL ⊢
  generalize dgs l = q at HD ⊢
  clear hn hr hC
  by_cases hy : y = 4
  · subst hy
    go_enter Tryd.func15, Tryd.ntmps15
    go_wp2_with (first | (go_at_call 11; refine HL.out.mono ?_; rintro e w1 ⟨rfl, hB1⟩) | fail)
    go_ret
    exact ⟨rfl, hB1⟩
  · have hyb : (y == 4) = false := by simpa using hy
    rw [if_neg hy]
    clear hy
    cases q with
    | true =>
      go_enter Tryd.func15, Tryd.ntmps15
      go_wp2_with (first | (go_at_call 11; refine HL.out.mono ?_; rintro e w1 ⟨rfl, hB1⟩) | (go_at_call 13; refine (HD.out _ hB1).mono ?_; rintro e w2 ⟨rfl, hB2⟩) | fail)
      go_ret
      exact ⟨rfl, upB hB1 hB2⟩
    | false =>
      go_enter Tryd.func15, Tryd.ntmps15
      go_wp2_with (first | (go_at_call 11; refine HL.out.mono ?_; rintro e w1 ⟨rfl, hB1⟩) | (go_at_call 13; refine (HD.out _ hB1).mono ?_; rintro e w2 ⟨rfl, hB2⟩) | fail)
      go_ret
      exact ⟨rfl, upB hB1 hB2⟩
end Go.Proofs.YtjpmecdjlodaoaaDoor.Mix
