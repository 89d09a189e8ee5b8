/-
  fasciaref12: Parts.
-/
import Derived.Test.YtpmdecdjlegcnaaDoorFourRA
import Derived.Test.YtpmdecdjlegcnaaDoorFourM
import Derived.Test.YtpmdecdjlegcnaaDoorFourS
namespace Go.Proofs.YtpmdecdjlegcnaaDoor.Fou
open Go.RowKit

theorem last_dot (l : List UInt8) : (46 : UInt8) ∉ l ∨ ∃ a b, l = a ++ 46 :: b ∧ (46 : UInt8) ∉ b := by
  by_cases h : (46 : UInt8) ∈ l
  · right
    obtain ⟨p, q, h1, h2⟩ := List.eq_append_cons_of_mem (List.mem_reverse.2 h)
    refine ⟨q.reverse, p.reverse, ?_, by simpa using h2⟩
    have := congrArg List.reverse h1
    simpa using this
  · exact .inl h
/-- the document's parts: the last one is left out, if it is empty and there are others -/
theorem spl_trm (l : List UInt8) : spl (trm l) = if 1 < (spl l).length ∧ (spl l).getLast? = some [] then (spl l).dropLast else spl l := by
  rcases last_dot l with h | ⟨a, b, rfl, h⟩
  · rw [spl_one l h, if_neg (by simp), trm_no (fun e => h (List.mem_of_getLast? e)), spl_one l h]
  · cases b with
    | nil =>
      have e1 : spl (a ++ [46]) = spl a ++ [[]] := by rw [show a ++ [46] = a ++ 46 :: [] from rfl, spl_app]; rfl
      have h0 := List.length_pos_iff.2 (spl_ne a)
      rw [trm_dot, e1, if_pos ⟨by simp; omega, by simp⟩]
      simp
    | cons c t =>
      have e1 : spl (a ++ 46 :: c :: t) = spl a ++ [c :: t] := by rw [spl_app, spl_one _ h]
      rw [trm_spl (by rw [e1]; simp), e1, if_neg (by simp)]
def PState (l : List UInt8) (k f : Nat) (xs : List ByteArray) : Prop :=
  (k ≤ l.length → f ≤ k ∧ xs.map dl ++ spl (l.drop f) = spl l ∧ (46 : UInt8) ∉ (l.drop f).take (k - f)) ∧ (k = l.length + 1 → xs.map dl = spl l) ∧ xs.length ≤ k
theorem ext_mid (s : ByteArray) (i j : Nat) : dl (s.extract i j) = ((dl s).drop i).take (j - i) := by
  rw [dl, ByteArray.data_extract, Array.toList_extract, List.extract_eq_take_drop]
theorem ps_zero (l : List UInt8) : PState l 0 0 [] := ⟨fun _ => ⟨Nat.le_refl _, by simp, by simp⟩, fun h => by omega, Nat.le_refl _⟩
theorem ps_next {l : List UInt8} {k f : Nat} {xs : List ByteArray} (h : PState l k f xs) (hk : k < l.length) (hne : l[k] ≠ 46) : PState l (k + 1) f xs := by
  obtain ⟨h1, -, h3⟩ := h
  obtain ⟨h4, h5, h6⟩ := h1 (by omega)
  refine ⟨fun _ => ⟨by omega, h5, ?_⟩, fun e => by omega, by omega⟩
  rw [show k + 1 - f = (k - f) + 1 by omega, List.take_succ_eq_append_getElem (by rw [List.length_drop]; omega)]
  intro hm
  rcases List.mem_append.1 hm with hm | hm
  · exact h6 hm
  · rw [List.mem_singleton, List.getElem_drop] at hm
    have e : f + (k - f) = k := by omega
    simp only [e] at hm
    exact hne hm.symm
theorem ps_dot {s : ByteArray} {k f : Nat} {xs : List ByteArray} (h : PState (dl s) k f xs) (hk : k < (dl s).length) (he : (dl s)[k] = 46) : PState (dl s) (k + 1) (k + 1) (xs ++ [s.extract f k]) := by
  obtain ⟨h1, -, h3⟩ := h
  obtain ⟨h4, h5, h6⟩ := h1 (by omega)
  have e : (dl s).drop f = dl (s.extract f k) ++ 46 :: (dl s).drop (k + 1) := by
    rw [ext_mid]
    conv => lhs; rw [← List.take_append_drop (k - f) ((dl s).drop f)]
    congr 1
    rw [List.drop_drop, show f + (k - f) = k by omega, List.drop_eq_getElem_cons hk, he]
  have e2 : spl ((dl s).drop f) = [dl (s.extract f k)] ++ spl ((dl s).drop (k + 1)) := by
    rw [e, spl_app, spl_one _ (by rw [ext_mid]; exact h6)]
  refine ⟨fun _ => ⟨Nat.le_refl _, ?_, by simp⟩, fun e => by omega, by rw [List.length_append, List.length_singleton]; omega⟩
  rw [List.map_append, List.map_singleton, List.append_assoc, ← e2, h5]
theorem ps_end {s : ByteArray} {f : Nat} {xs : List ByteArray} (h : PState (dl s) (dl s).length f xs) (f' : Nat) : PState (dl s) ((dl s).length + 1) f' (xs ++ [s.extract f (dl s).length]) := by
  obtain ⟨h1, -, h3⟩ := h
  obtain ⟨h4, h5, h6⟩ := h1 (Nat.le_refl _)
  refine ⟨fun e => by omega, fun _ => ?_, by rw [List.length_append, List.length_singleton]; omega⟩
  have e1 : dl (s.extract f (dl s).length) = (dl s).drop f := by rw [ext_mid, List.take_of_length_le (by rw [List.length_drop]; omega)]
  have e2 : (46 : UInt8) ∉ (dl s).drop f := by
    rw [List.take_of_length_le (by rw [List.length_drop]; omega)] at h6
    exact h6
  rw [List.map_append, List.map_singleton, e1, ← h5, spl_one _ e2]
/-- it answers a row of these texts -/
def RowOf (ps : List (List UInt8)) (w : World) (e : Ending) (w' : World) : Prop := ∃ (A : Option Addr) (c : Nat) (ys : List ByteArray), e = .returned (.slice A ys.length c) ∧ ys.length ≤ c ∧ Row w' w'.heap.size A (sc ys) ∧ ys.map dl = ps ∧ Below w.heap.size w w'
def PRelR (s : ByteArray) (w : World) (s3 s4 s5 : Value) (wr : World) : Prop :=
  ∃ (k f n c : Nat) (A : Option Addr) (xs : List ByteArray), s5 = .int .i64 (k : Int) ∧ s4 = .int .i64 (f : Int) ∧ s3 = .slice A n c ∧ k ≤ s.size + 1 ∧ n ≤ k ∧ f ≤ s.size + 1 ∧ Hid (xs.length = n) ∧ Hid (PState (dl s) k f xs) ∧ wr.ownsRow w.heap.size 9 1 (.slice A n c) n (sc xs) ∧ Below w.heap.size w wr
set_option maxRecDepth 100000 in
set_option maxHeartbeats 4000000 in
theorem refParts_any (s : ByteArray) (w : World) (hs : s.size ≤ 1000000) : Calls Tryd.prog 33 #[.string s] w (RowOf (spl (trm (dl s))) w) := by
  have hz : (dl s).length = s.size := by simp [dl]
  have HZ := Lib.hid hz
  clear hz
  go_enter Tryd.func33, Tryd.ntmps33
  go_wp2_with fail
  go_loopg [3, 4, 5] (s.size + 1) (fun m s3 s4 s5 wr => (∃ k : Nat, s5 = .int .i64 (k : Int) ∧ m = s.size + 1 - k) ∧ PRelR s w s3 s4 s5 wr)
  case atStart => exact ⟨⟨0, rfl, rfl⟩, 0, 0, 0, 0, none, [], rfl, rfl, rfl, Nat.zero_le _, Nat.le_refl _, Nat.zero_le _, Lib.hid rfl, Lib.hid (ps_zero _), World.ownsRow_nil _ _ _ _, Below.refl _ _⟩
  case round =>
    obtain ⟨⟨k0, hk0, rfl⟩, k, f, n, c, A, xs, rfl, rfl, rfl, hk, hnk, hf, HN, HS, hO, hB⟩ := hrel
    obtain rfl : k = k0 := by injection hk0 with _ h; omega
    clear hk0
    rcases Nat.lt_trichotomy k s.size with hlt | heq | hgt
    · have hkl : k < (dl s).length := by rw [HZ.out]; exact hlt
      have hge := get_dl hlt
      have hfk : f ≤ k := (HS.out.1 (by omega)).1
      cases hd : ((s[k].toNat : Int) == 46) with
      | false =>
        have hne : (dl s)[k] ≠ 46 := by rw [← hge]; exact byte_ne (k := 46) (by decide) hd
        have HS2 := Lib.hid (ps_next HS.out hkl hne)
        have hkne : ((k : Int) == (s.size : Int)) = false := beq_eq_false_iff_ne.2 (by omega)
        clear hge hne
        go_wp2_with fail
        go_roundg (s.size + 1 - (k + 1))
        case measure => omega
        case rel => exact ⟨⟨k + 1, by go_num, rfl⟩, k + 1, f, n, c, A, xs, by go_num, rfl, rfl, by omega, by omega, hf, HN, HS2, hO, hB⟩
      | true =>
        have he : (dl s)[k] = 46 := by rw [← hge]; exact byte_eq (k := 46) (by decide) hd
        have HS2 := Lib.hid (ps_dot HS.out hkl he)
        have hkne : ((k : Int) == (s.size : Int)) = false := beq_eq_false_iff_ne.2 (by omega)
        clear hge he
        go_wp2_with (first | (at_builtin; refine wpList_appS w.heap.size wr rfl _ _ rfl (.slice A n c) n (n + 1) xs (s.extract f k) rfl hO hB.size rfl rfl (by omega) ?_; intro A' c' w' hO' hB') | fail)
        go_roundg (s.size + 1 - (k + 1))
        case measure => omega
        case rel => exact ⟨⟨k + 1, by go_num, rfl⟩, k + 1, k + 1, n + 1, c', A', xs ++ [s.extract f k], by go_num, by go_num, rfl, by omega, by omega, by omega, Lib.hid (by rw [List.length_append, HN.out]; rfl), HS2, hO', hB.trans hB'⟩
    · subst heq
      have HS2 : Hid (PState (dl s) (s.size + 1) (s.size + 1) (xs ++ [s.extract f s.size])) := Lib.hid (by
        have := ps_end (s := s) (f := f) (xs := xs) (by rw [HZ.out]; exact HS.out) (s.size + 1)
        rwa [HZ.out] at this)
      have hfk : f ≤ s.size := (HS.out.1 (by rw [HZ.out]; exact Nat.le_refl _)).1
      go_wp2_with (first | (at_builtin; refine wpList_appS w.heap.size wr rfl _ _ rfl (.slice A n c) n (n + 1) xs (s.extract f s.size) rfl hO hB.size rfl rfl (by omega) ?_; intro A' c' w' hO' hB') | fail)
      go_roundg 0
      case measure => omega
      case rel => exact ⟨⟨s.size + 1, by go_num, by omega⟩, s.size + 1, s.size + 1, n + 1, c', A', xs ++ [s.extract f s.size], by go_num, by go_num, rfl, by omega, by omega, by omega, Lib.hid (by rw [List.length_append, HN.out]; rfl), HS2, hO', hB.trans hB'⟩
    · obtain rfl : k = s.size + 1 := by omega
      have hx : xs.map dl = spl (dl s) := HS.out.2.1 (by rw [HZ.out])
      have hn0 : 0 < n := by
        rw [← HN.out]
        have := List.length_pos_iff.2 (spl_ne (dl s))
        rw [← hx, List.length_map] at this
        exact this
      have hlen : (spl (dl s)).length = n := by rw [← hx, List.length_map]; exact HN.out
      have hex : ¬ (((s.size + 1 : Nat) : Int) ≤ (s.size : Int)) := by omega
      have hcap := own_cap hO
      have hrow := own_row hO
      by_cases h1 : n = 1
      · have hn1 : ¬ ((1 : Int) < (n : Int)) := by omega
        have HR : Hid (xs.map dl = spl (trm (dl s))) := Lib.hid (by rw [spl_trm, if_neg (by rw [hlen]; omega)]; exact hx)
        clear hx hlen h1 HS hO
        go_wp2_with fail
        go_ret
        exact ⟨A, c, xs, by rw [HN.out]; rfl, by rw [HN.out]; exact hcap, hrow, HR.out, hB⟩
      · have hn1 : (1 : Int) < (n : Int) := by omega
        obtain ⟨i, hi⟩ : ∃ i, n = i + 1 := ⟨n - 1, by omega⟩
        have hil : i < xs.length := by rw [HN.out]; omega
        obtain ⟨b, o, rfl, hb', hcc⟩ := hrow.at_ (by rw [List.length_map, HN.out]; omega)
        have hc0 := hcc i (by rw [List.length_map]; exact hil)
        rw [List.getElem?_map, List.getElem?_eq_getElem hil, Option.map_some] at hc0
        have hlast : (spl (dl s)).getLast? = some (dl xs[i]) := by
          rw [← hx, List.getLast?_eq_getElem?, List.getElem?_map, List.length_map, HN.out, hi, Nat.add_sub_cancel, List.getElem?_eq_getElem hil]
          rfl
        have hdr : (xs.take i).map dl = (spl (dl s)).dropLast := by
          rw [← hx, List.dropLast_eq_take, List.length_map, HN.out, hi, Nat.add_sub_cancel, List.map_take]
        have hni : (n : Int) - 1 = (i : Int) := by omega
        have hrow2 : Row wr wr.heap.size (some ⟨b, o, none⟩) (sc (xs.take i)) := .inr ⟨b, o, rfl, hb', fun q hq => by
          rw [List.length_map, List.length_take] at hq
          rw [hcc q (by rw [List.length_map]; omega), List.getElem?_map, List.getElem?_map, List.getElem?_take, if_pos (by omega)]⟩
        have hin : i < n := by omega
        generalize xs[i] = y at hc0 hlast
        by_cases hy : dl y = []
        · have g1 : y.toList = [] := by rw [ByteArray.toList_eq]; exact hy
          have g2 : y.toList.isEmpty = true := by rw [g1]; rfl
          have HR : Hid ((xs.take i).map dl = spl (trm (dl s))) := Lib.hid (by rw [spl_trm, if_pos ⟨by rw [hlen]; omega, by rw [hlast, hy]⟩]; exact hdr)
          have HI : Hid ((xs.take i).length = i) := Lib.hid (by rw [List.length_take]; omega)
          clear hx hlen HS hO hcc hlast hdr hy hil hi h1
          go_wp2_with fail
          go_ret
          exact ⟨some ⟨b, o, none⟩, c, xs.take i, by rw [HI.out]; rfl, by rw [HI.out]; omega, hrow2, HR.out, hB⟩
        · have g1 : y.toList ≠ [] := by rw [ByteArray.toList_eq]; exact hy
          have g2 : y.toList.isEmpty = false := by rw [List.isEmpty_eq_false_iff]; exact g1
          have HR : Hid (xs.map dl = spl (trm (dl s))) := Lib.hid (by rw [spl_trm, if_neg (by rw [hlast]; rintro ⟨_, e⟩; exact hy (Option.some.inj e))]; exact hx)
          clear hx hlen HS hO hcc hlast hdr hy hil hi h1
          go_wp2_with fail
          go_ret
          exact ⟨some ⟨b, o, none⟩, c, xs, by rw [HN.out]; rfl, by rw [HN.out]; exact hcap, hrow, HR.out, hB⟩
end Go.Proofs.YtpmdecdjlegcnaaDoor.Fou
