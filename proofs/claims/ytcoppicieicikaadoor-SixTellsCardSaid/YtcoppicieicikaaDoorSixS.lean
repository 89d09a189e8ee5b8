/-
  Rows of texts: what an append makes of the call's own row.
-/
import Derived.Test.YtcoppicieicikaaDoorSixI
namespace Go.Proofs.YtcoppicieicikaaDoor.Sx
open Go.RowKit

theorem own_cap {w : World} {base : Nat} {e : TypeId} {size n m c : Nat} {A : Option Addr} {xs : List Value} (h : w.ownsRow base e size (.slice A m c) n xs) : n ≤ c := by
  obtain ⟨A1, c1, hv, hc, hr⟩ := own_form h
  cases hv
  exact hc
theorem info_tx : (Tryd.prog.info? 9).map (fun i => (i.zero, i.size, i.bytes)) = some (some (.string ByteArray.empty), 1, 16) := by kernel_rfl
/-- texts as cells -/
abbrev sc (xs : List ByteArray) : List Value := xs.map Value.string
theorem sc_snoc (R : List ByteArray) (r : ByteArray) : sc (R ++ [r]) = sc R ++ [.string r] := by simp [sc]
theorem one_sc (xs : List ByteArray) : ∀ u ∈ sc xs, u.oneCell' = true := by
  intro u hu
  obtain ⟨x, _, rfl⟩ := List.mem_map.1 hu
  rfl
/-- append(s, y), where the one to be appended has just been laid -/
theorem wpList_appS {ops : Array Oper} {rest : List Oper} {o : Oper} {a : Act} {Q : Exit → Act → World → Prop} (B : Nat) (W : World) (hgd : o.guard = none) (s x : Operand)
    (ho : o.op = .call { callee := .builtin .append, args := #[s, x], argTypes := #[35, 35] })
    (v : Value) (n m : Nat) (xs : List ByteArray) (y : ByteArray) (hs : a.eval s = v) (hown : W.ownsRow B 9 1 v n (sc xs)) (hB : B ≤ W.heap.size)
    (hx : a.eval x = .slice (some ⟨W.heap.size, 0, none⟩) 1 1) (hm : n + 1 = m) (hm2 : m ≤ 1100000)
    (h : ∀ A' c' w', w'.ownsRow B 9 1 (.slice A' m c') m (sc (xs ++ [y])) → Below B W w' → wpList Tryd.prog ops Q rest (a.put o.dst (.slice A' m c')) w') :
    wpList Tryd.prog ops Q (o :: rest) a (W.alloc (.cells #[.string y] 9)) := by
  subst hm
  obtain ⟨i0, hi, hz0, hz1, hz2⟩ := info_split info_tx
  have hB1 := (Below.refl B W).alloc hB (.cells #[.string y] 9)
  refine wpList_append_row _ hgd s x 35 ho B 9 i0 (.string ByteArray.empty) 1 16 Tryd.underlying35 hi hz0 hz1 hz2 rfl (Nat.zero_lt_succ 0) v n (sc xs) hs (hown.alloc _) _ _ 1 1 [.string y] hx rfl (row_new _ _ 9 [.string y] rfl) (by simp [Value.oneCell']) (by unfold maxLen; omega) (by omega) (by rw [World.size_alloc]; omega) ?_
  intro v' w' hO hg
  have hB2 := hB1.grown hg (by rw [World.size_alloc]; omega) (fun j e => (hown.lt j e).1)
  obtain ⟨A', c', rfl, _, _⟩ := own_form hO
  exact h A' c' w' (by rw [sc_snoc]; exact hO) hB2
/-- append(s, t...), where t is a row of texts -/
theorem wpList_appR {ops : Array Oper} {rest : List Oper} {o : Oper} {a : Act} {Q : Exit → Act → World → Prop} (B : Nat) (W : World) (hgd : o.guard = none) (s x : Operand)
    (ho : o.op = .call { callee := .builtin .append, args := #[s, x], argTypes := #[35, 35] })
    (v : Value) (n m : Nat) (xs ys : List ByteArray) (hs : a.eval s = v) (hown : W.ownsRow B 9 1 v n (sc xs)) (hB : B ≤ W.heap.size) (A : Option Addr) (k c : Nat)
    (hx : a.eval x = .slice A k c) (hk : ys.length = k) (hr : Row W W.heap.size A (sc ys)) (hm : n + k = m) (hm2 : m ≤ 1100000)
    (h : ∀ A' c' w', w'.ownsRow B 9 1 (.slice A' m c') m (sc (xs ++ ys)) → Below B W w' → wpList Tryd.prog ops Q rest (a.put o.dst (.slice A' m c')) w') :
    wpList Tryd.prog ops Q (o :: rest) a W := by
  subst hm
  obtain ⟨i0, hi, hz0, hz1, hz2⟩ := info_split info_tx
  refine wpList_append_row _ hgd s x 35 ho B 9 i0 (.string ByteArray.empty) 1 16 Tryd.underlying35 hi hz0 hz1 hz2 rfl (Nat.zero_lt_succ 0) v n (sc xs) hs hown W.heap.size A k c (sc ys) hx (by simp [hk]) hr (one_sc ys) (by unfold maxLen; omega) (by omega) hB ?_
  intro v' w' hO hg
  have hB2 := (Below.refl B W).grown hg hB (fun j e => (hown.lt j e).1)
  obtain ⟨A', c', rfl, _, _⟩ := own_form hO
  exact h A' c' w' (by rw [show sc (xs ++ ys) = sc xs ++ sc ys from List.map_append]; exact hO) hB2
theorem index8 (x : List Nat) (h8 : x.length = 8) (k : Nat) (hk : k < 8) (W : World) : (Instr.index 23 (.agg (cu x).toArray) (.int .i64 (k : Int))).run Tryd.prog W = .ok (.int .u16 (nth x k : Int)) W := by
  have hp := part8 x W k (by omega)
  have h2 : (0 : Int) ≤ (k : Int) ∧ (k : Int) < (8 : Nat) := by omega
  unfold Instr.index
  simp only [asIntOf, Sem.run_bind, Sem.run_pure, Result.andThen_ok, run_underlying Tryd.underlying23]
  rw [if_pos h2]
  simp only [Sem.run_bind, size16, Result.andThen_ok, Int.toNat_natCast, Nat.mul_one, hp]
/-- how many noughts are asked for -/
def nk (zs : List Nat) (i : Nat) : Nat := zs.getD i 0
/-- eight pieces, with noughts ahead -/
def fl (x zs : List Nat) (j : Nat) : List (List UInt8) := (List.range j).map fun i => nht (nk zs i) (nth x i)
theorem fl_succ (x zs : List Nat) (j : Nat) : fl x zs (j + 1) = fl x zs j ++ [nht (nk zs j) (nth x j)] := by
  unfold fl
  rw [List.range_succ, List.map_append]
  rfl
theorem fl_len (x zs : List Nat) (j : Nat) : (fl x zs j).length = j := by simp [fl]
/-- bytes as cells -/
def cb (zs : List Nat) : List Value := zs.map fun z : Nat => Value.int .u8 (z : Int)
theorem cb_len (zs : List Nat) : (cb zs).length = zs.length := by rw [cb, List.length_map]
theorem cb_get {zs : List Nat} {k : Nat} (h : k < zs.length) : (cb zs)[k]? = some (.int .u8 (nk zs k : Int)) := by
  rw [cb, List.getElem?_map, nk, List.getD, List.getElem?_eq_getElem h]
  rfl
theorem nk_mem {zs : List Nat} {k : Nat} (h : k < zs.length) : nk zs k ∈ zs := by
  rw [nk, List.getD, List.getElem?_eq_getElem h]
  exact List.getElem_mem h
theorem nht_size {k n : Nat} (h : n < 65536) : (bs (nht k n)).size ≤ 4 := by rw [bs_size]; exact nht_len k h
theorem nht_app {k n m : Nat} (hm : min k (4 - (digs 16 n).length) = m) : bs (List.replicate m 48) ++ bs (digs 16 n) = bs (nht k n) := by
  subst hm
  refine bytes_ext.2 ?_
  rw [bs_data]
  show dl _ = _
  rw [app_dl]
  simp [dl, bs, nht]
set_option maxRecDepth 100000 in
set_option maxHeartbeats 2000000 in
theorem full_any (x zs : List Nat) (h8 : x.length = 8) (h16 : ∀ m ∈ x, m < 65536) (hzs : ∀ z ∈ zs, z < 256) (A : Option Addr) (n c : Nat) (w : World) (hn : zs.length = n) (hn63 : n ≤ 9223372036854775807) (hr : Row w w.heap.size A (cb zs)) (hE : Env w) :
    Calls Tryd.prog 17 #[av x, .slice A n c] w (fun e w' => ∃ A' c', e = .returned (.slice A' 8 c') ∧ w'.ownsRow w.heap.size 9 1 (.slice A' 8 c') 8 (sc ((fl x zs 8).map bs)) ∧ Below w.heap.size w w') := by
  have H8 := Lib.hid h8
  have H16 := Lib.hid h16
  have HZS := Lib.hid hzs
  have HN := Lib.hid hn
  have HR := Lib.hid hr
  have HE := Lib.hid (fun w' (hB : Below w.heap.size w w') => hE.go hB)
  have hx0 := Hx.new w x
  have hB0 := upA w (.cells (cu x).toArray 23)
  obtain ⟨w1, hw1⟩ : ∃ w1, w.alloc (.cells (cu x).toArray 23) = w1 := ⟨_, rfl⟩
  rw [hw1] at hx0 hB0
  have HB0 := Lib.hid hB0
  clear h8 h16 hzs hn hr hE hB0
  go_enter Tryd.func17, Tryd.ntmps17
  go_upto_region 1 with fail
  clear hw1
  go_wp2_with (first | (refine load8 _ rfl _ rfl x hx0 H8.out rfl ?_) | fail)
  clear hx0
  go_loopg [5, 10] 8 (fun g s5 s10 wr => ∃ (k c' : Nat) (A' : Option Addr), s10 = .int .i64 (k : Int) ∧ 8 - k = g ∧ k ≤ 8 ∧ s5 = .slice A' k c' ∧ Hid (wr.ownsRow w.heap.size 9 1 (.slice A' k c') k (sc ((fl x zs k).map bs))) ∧ Hid (Below w.heap.size w wr))
  case atStart => exact ⟨0, 0, none, rfl, rfl, Nat.zero_le _, rfl, Lib.hid (World.ownsRow_nil _ _ _ _), HB0⟩
  case round =>
    obtain ⟨k, c', A', rfl, rfl, hk, rfl, HO, HB⟩ := hrel
    by_cases hlt : k < 8
    · have hltz : (k : Int) < 8 := by omega
      have hix := fun W => index8 x H8.out k hlt W
      have hv := nth_le H16.out (k := k) (by rw [H8.out]; exact hlt)
      have HNX : Hid (∀ z, nk zs k = z → (fl x zs (k + 1)).map bs = (fl x zs k).map bs ++ [bs (nht z (nth x k))]) := Lib.hid (fun z hz => by rw [fl_succ, List.map_append, hz]; rfl)
      obtain ⟨v, hvx⟩ : ∃ v, nth x k = v := ⟨_, rfl⟩
      rw [hvx] at hix hv HNX
      have HF := Lib.hid (FormatHex_any v hv wr (HE.out _ HB.out))
      have HSZ := Lib.hid (nht_size (k := nk zs k) hv)
      have hL1 := digs_pos 16 v
      have hL4 := hex_len hv
      have HV := Lib.hid hv
      have hv0 : (v : Int) < 65536 := by omega
      have hsz : (bs (digs 16 v)).size = (digs 16 v).length := bs_size _
      unfold Texts at HF
      obtain ⟨D, hD⟩ : ∃ D, bs (digs 16 v) = D := ⟨_, rfl⟩
      rw [hD] at HF hsz
      have HD := Lib.hid hD
      obtain ⟨L, hL⟩ : ∃ L, (digs 16 v).length = L := ⟨_, rfl⟩
      rw [hL] at hL1 hL4 hsz
      have HL := Lib.hid hL
      clear hvx hv hD hL
      go_upto_region 6 with (first | (go_at_call 40; refine HF.out.mono ?_; rintro e w2 ⟨rfl, hB2⟩) | fail)
      have HO2 := Lib.hid (own_below HO.out hB2)
      have HB2 := Lib.hid (upB HB.out hB2)
      clear hB2 HF
      by_cases hkn : k < n
      · have hknz : (k : Int) < (n : Int) := by omega
        obtain ⟨b, o, rfl, hb, hcc⟩ := (HR.out.below HB2.out).at_ (by rw [cb_len, HN.out]; omega)
        have hc : w2.cell? ⟨b, o + k, none⟩ = some (.int .u8 (nk zs k : Int)) := by
          rw [hcc k (by rw [cb_len, HN.out]; exact hkn), cb_get (by rw [HN.out]; exact hkn)]
        have hz := HZS.out _ (nk_mem (zs := zs) (k := k) (by rw [HN.out]; exact hkn))
        have HNZ := Lib.hid (HNX.out _ rfl)
        obtain ⟨z, hzx⟩ : ∃ z, nk zs k = z := ⟨_, rfl⟩
        rw [hzx] at hc hz HNZ HSZ
        obtain ⟨r, hr4⟩ : ∃ r : Nat, (4 : Int) - (L : Int) = (r : Int) := ⟨4 - L, by omega⟩
        have hr3 : r ≤ 3 := by omega
        obtain ⟨m, hm⟩ : ∃ m, min z r = m := ⟨_, rfl⟩
        have hmi : min (z : Int) (r : Int) = (m : Int) := by omega
        have hm3 : m ≤ 3 := by omega
        have HAP : Hid (bs (List.replicate m 48) ++ D = bs (nht z v)) := Lib.hid (by
          rw [← HD.out]
          exact nht_app (by rw [HL.out, ← hm]; omega))
        have HRP := Lib.hid (fun W => Repeat_any m (by omega) W)
        unfold Texts at HRP
        have hrs : (bs (List.replicate m 48)).size = m := by rw [bs_size, List.length_replicate]
        obtain ⟨R, hR⟩ : ∃ R, bs (List.replicate m 48) = R := ⟨_, rfl⟩
        rw [hR] at HAP HRP hrs
        have hszi : (D.size : Int) = (L : Int) := by rw [hsz]
        have hz0 : (z : Int) < 256 := by omega
        clear hcc hzx hm hR hkn hsz hix
        go_wp2_with fail
        refine (HRP.out _).mono ?_
        rintro e w3 ⟨rfl, hB3⟩
        have HO3 := Lib.hid (own_below HO2.out hB3)
        have HB3 := Lib.hid (upB HB2.out hB3)
        have hlen : ¬ (9223372036854775807 < R.size + D.size) := by omega
        clear hB3
        go_upto_region 8 with fail
        rw [HAP.out]
        obtain ⟨Y, hY⟩ : ∃ Y, bs (nht z v) = Y := ⟨_, rfl⟩
        rw [hY] at HNZ ⊢
        clear HAP hY
        go_wp2_with (first | (at_builtin; refine wpList_appS w.heap.size w3 rfl _ _ rfl (.slice A' k c') k (k + 1) ((fl x zs k).map bs) Y rfl HO3.out HB3.out.size rfl rfl (by omega) ?_; intro A2 c2 w4 hO4 hB4) | fail)
        go_roundg (8 - (k + 1))
        case measure => omega
        case rel => exact ⟨k + 1, c2, A2, by go_num, rfl, by omega, rfl, Lib.hid (by rw [HNZ.out]; exact hO4), Lib.hid (HB3.out.trans hB4)⟩
      · have hknz : ¬ (k : Int) < (n : Int) := by omega
        have HNZ := Lib.hid (HNX.out 0 (by rw [nk, List.getD, List.getElem?_eq_none (by rw [HN.out]; omega)]; rfl))
        have HY : Hid (bs (nht 0 v) = D) := Lib.hid (by rw [nht_zero]; exact HD.out)
        rw [HY.out] at HNZ
        clear hkn hix HNX HSZ
        go_wp2_with (first | (at_builtin; refine wpList_appS w.heap.size w2 rfl _ _ rfl (.slice A' k c') k (k + 1) ((fl x zs k).map bs) D rfl HO2.out HB2.out.size rfl rfl (by omega) ?_; intro A2 c2 w4 hO4 hB4) | fail)
        go_roundg (8 - (k + 1))
        case measure => omega
        case rel => exact ⟨k + 1, c2, A2, by go_num, rfl, by omega, rfl, Lib.hid (by rw [HNZ.out]; exact hO4), Lib.hid (HB2.out.trans hB4)⟩
    · obtain rfl : k = 8 := by omega
      have hO := HO.out
      go_wp2_with fail
      go_ret
      exact ⟨A', c', rfl, hO, HB.out⟩
end Go.Proofs.YtcoppicieicikaaDoor.Sx
