import Derived.Test.YtenfdnnagijfnaaGreatDoorStabF
/-
  The library's stable sort at []classed: symMerge; the insertion sort of a part; blocks.
-/
namespace Go.Proofs.YtenfdnnagijfnaaGreatDoor
open Go.RowKit Norm Go.Shelf Go.Sort Go.Lib

theorem sm_any (w0 : World) (blk off cap N : Nat) (l0 : List C) (R : RowC w0 blk off l0) (hN : N = l0.length) (h6 : N ≤ 1000000) : ∀ k, SmOk w0 blk off cap N k
  | 0 => fun P X Y S a m b h => absurd h (Nat.not_lt_zero _)
  | k + 1 => by
    have ih := sm_any w0 blk off cap N l0 R hN h6 k
    intro P X Y S a m b hk ha hm hb hX0 hY0 hX hY hl W hS
    by_cases h1 : X.length = 1
    · obtain ⟨x, rfl⟩ := List.length_eq_one_iff.1 h1
      exact sm_one w0 blk off cap N l0 R P x Y S a m b ha (by simpa using hm) (by simpa using hb) hY hN hl h6 W hS
    · by_cases h2 : Y.length = 1
      · obtain ⟨y, rfl⟩ := List.length_eq_one_iff.1 h2
        exact sm_last w0 blk off cap N l0 R P X y S a m b X.length ha rfl (by omega) hm (by simpa using hb) hX hN hl h6 W hS
      · exact sm_rec w0 blk off cap N l0 R P X Y S a m b X.length Y.length ha rfl rfl (by omega) (by omega) (by omega) (by omega) hX hY hN hl h6 (fun P X' Y' S a m b hk' => ih P X' Y' S a m b (by omega)) W hS

theorem cut3 {P X S M : List C} (h : Stb (P ++ X ++ S) (P ++ M ++ S)) : Stb X M := fun c => by
  have := h c
  simp only [List.filter_append] at this
  exact List.append_cancel_left (List.append_cancel_right this)
theorem at_X1 {P X S : List C} {i : Nat} (hi : i < X.length) : (P ++ X ++ S).toArray[P.length + i]! = X[i]! := by
  have := at_X (P := P) (X := X) (Y := S) (S := []) hi
  rw [List.append_nil] at this
  exact this
theorem ins_part (P X S : List C) : insertionSort (ltOf cfC) (P ++ X ++ S).toArray P.length (P.length + X.length) = (P ++ isort X ++ S).toArray := by
  have hb : P.length + X.length ≤ (P ++ X ++ S).toArray.size := by simp
  have h1 := insertionSort_holds (lt := ltOf cfC) swoC (P ++ X ++ S).toArray P.length (P.length + X.length) (by omega) hb
  have h2 := insertion_stb (P ++ X ++ S).toArray P.length (P.length + X.length) hb
  obtain ⟨d, hd⟩ : ∃ d, insertionSort (ltOf cfC) (P ++ X ++ S).toArray P.length (P.length + X.length) = d := ⟨_, rfl⟩
  rw [hd] at h1 h2 ⊢
  obtain ⟨⟨hsz, hout, _⟩, hsrt⟩ := h1
  have hlen : d.toList.length = P.length + X.length + S.length := by have := h2.2; simp at this ⊢; omega
  have hget : ∀ i, i < d.toList.length → (i < P.length ∨ P.length + X.length ≤ i) → d.toList[i]? = (P ++ X ++ S)[i]? := by
    intro i hi hor
    have hi2 : i < d.size := by simpa using hi
    have := hout i hor
    rw [getElem!_pos d i hi2, getElem!_pos _ i (by simp at hlen ⊢; omega)] at this
    rw [List.getElem?_eq_getElem hi, List.getElem?_eq_getElem (by simp at hlen ⊢; omega)]
    simpa using this
  have eP : d.toList.take P.length = P := by
    apply List.ext_getElem?
    intro i
    by_cases hi : i < P.length
    · rw [List.getElem?_take_of_lt hi, hget i (by omega) (.inl hi), List.append_assoc, List.getElem?_append_left hi]
    · rw [List.getElem?_take_eq_none (by omega), List.getElem?_eq_none (by omega)]
  have eS : d.toList.drop (P.length + X.length) = S := by
    apply List.ext_getElem?
    intro i
    rw [List.getElem?_drop]
    by_cases hi : i < S.length
    · rw [hget _ (by omega) (.inr (by omega)), List.getElem?_append_right (by simp)]
      simp
    · rw [List.getElem?_eq_none (by omega), List.getElem?_eq_none (by omega)]
  have eM : d.toList = P ++ (d.toList.drop P.length).take X.length ++ S := by
    conv => lhs; rw [← List.take_append_drop P.length d.toList, eP, ← List.take_append_drop X.length (d.toList.drop P.length), List.drop_drop, eS]
    simp
  obtain ⟨M, hM⟩ : ∃ M, (d.toList.drop P.length).take X.length = M := ⟨_, rfl⟩
  rw [hM] at eM
  have hstb : Stb X M := cut3 (P := P) (S := S) (by rw [← eM]; simpa using h2.1)
  have hml : M.length = X.length := by rw [← hM]; simp at hlen ⊢; omega
  have hsM : Srt M := by
    unfold Srt
    rw [List.pairwise_iff_getElem]
    intro i j hi hj hij
    have := hsrt (P.length + i) (P.length + j) (by omega) (by omega) (by omega)
    have ed : d = (P ++ M ++ S).toArray := by rw [← eM]
    rw [ed] at this
    rw [at_X1 hi, at_X1 hj, ltC, getElem!_pos M i hi, getElem!_pos M j hj] at this
    simp only [decide_eq_false_iff_not] at this
    omega
  have e : M = isort X := isort_of hsM hstb
  rw [← e]
  apply Array.ext'
  simpa using eM
theorem ins_list (w0 : World) (blk off cap N : Nat) (l0 : List C) (R : RowC w0 blk off l0) (P X S : List C) (a b : Nat) (ha : a = P.length) (hb : b = P.length + X.length) (hN : N = l0.length) (hl : (P ++ X ++ S).length = N) (h6 : N ≤ 1000000) (W : World) (hS : SWL w0 blk off (P ++ X ++ S) W) :
    Calls Tryz.prog 127 #[.slice (some ⟨blk, off, none⟩) N cap, .int .i64 a, .int .i64 b, .func (.func 91) #[] #[]] W (SwOk w0 blk off (P ++ isort X ++ S)) := by
  have hH : HoldsK encC 2 W blk off (P ++ X ++ S).toArray := SWK.holds hS R.hblk R.hH (by rw [List.size_toArray, List.size_toArray]; omega)
  have hlt : blk < W.heap.size := SWK.lt hS R.hblk
  have h := ins_any blk off cap a b (P ++ X ++ S).toArray W hH hlt (by omega) (by rw [List.size_toArray]; simp only [List.length_append] at hl ⊢; omega) (by rw [List.size_toArray]; omega)
  rw [List.size_toArray, hl] at h
  refine h.mono ?_
  rintro e w' ⟨rfl, n, os, rfl⟩
  refine ⟨rfl, ?_⟩
  subst ha
  subst hb
  rw [ins_part]
  exact SWK.on hS R.hblk n _ os (by simp [isort_len])

/-! blocks -/
def Chk (bs : Nat) (cs : List (List C)) : Prop := ∀ c ∈ cs, c.length = bs ∧ Srt c
theorem chk_len {bs : Nat} : ∀ {cs : List (List C)}, Chk bs cs → cs.flatten.length = cs.length * bs
  | [], _ => by simp
  | c :: cs, h => by
    rw [List.flatten_cons, List.length_append, chk_len (fun x hx => h x (by simp [hx])), (h c (by simp)).1, List.length_cons, Nat.add_mul]; omega
theorem chk_snoc {bs : Nat} {cs : List (List C)} {c : List C} (h : Chk bs cs) (hc : c.length = bs) (hs : Srt c) : Chk bs (cs ++ [c]) := by
  intro x hx
  rcases List.mem_append.1 hx with hx | hx
  · exact h x hx
  · rw [List.mem_singleton] at hx; subst hx; exact ⟨hc, hs⟩
theorem flat_snoc (cs : List (List C)) (c : List C) : (cs ++ [c]).flatten = cs.flatten ++ c := by simp
/-- all blocks of bs elements are in order, and what is left behind them -/
def WBlk (bs : Nat) (L : List C) : Prop := ∃ cs t, L = cs.flatten ++ t ∧ Chk bs cs ∧ t.length < bs ∧ Srt t
theorem wblk_end {bs : Nat} {L : List C} (h : WBlk bs L) (hb : L.length ≤ bs) : Srt L := by
  obtain ⟨cs, t, rfl, hc, ht, hs⟩ := h
  rw [List.length_append, chk_len hc] at hb
  rcases cs with _ | ⟨c, _ | ⟨c2, cs⟩⟩
  · simpa using hs
  · simp only [List.length_cons, List.length_nil] at hb
    have : t = [] := List.eq_nil_of_length_eq_zero (by omega)
    subst this
    simpa using (hc c (by simp)).2
  · exfalso
    simp only [List.length_cons] at hb
    have : (cs.length + 1 + 1) * bs = cs.length * bs + 2 * bs := by rw [Nat.add_mul, Nat.add_mul]; omega
    omega
theorem stb_mid {P X Y S : List C} : Stb (P ++ X ++ Y ++ S) (P ++ isort (X ++ Y) ++ S) := by
  rw [List.append_assoc P X Y]
  exact ((Stb.refl P).append (isort_stb (X ++ Y))).append (Stb.refl S)
theorem stb_mid1 {P X S : List C} : Stb (P ++ X ++ S) (P ++ isort X ++ S) := ((Stb.refl P).append (isort_stb X)).append (Stb.refl S)
end Go.Proofs.YtenfdnnagijfnaaGreatDoor

/-
  slices.SortStableFunc at []classed, up to a thousand elements.
-/
namespace Go.Proofs.YtenfdnnagijfnaaGreatDoor
open Go.RowKit Norm Go.Shelf Go.Sort Go.Lib

set_option maxRecDepth 100000 in
set_option maxHeartbeats 8000000 in
theorem stable_list_any (blk off cap N : Nat) (l : List C) (w : World) (R : RowC w blk off l) (hN : N = l.length) (h6 : N ≤ 100000) :
    Calls Tryz.prog 113 #[.slice (some ⟨blk, off, none⟩) N cap, .int .i64 N, .func (.func 91) #[] #[]] w (SwOk w blk off (isort l)) := by
  have HS0 : Hid (SWL w blk off l w) := Lib.hid (SWK.start R.hH)
  have HNN := Lib.hid hN
  have HR := Lib.hid R
  clear hN R
  go_enter Tryz.func113, Tryz.ntmps113
  go_wp2
  go_loopg [7, 8] N (fun k s7 s8 wr => ∃ (cs : List (List C)) (r : List C) (a b : Nat), s7 = .int .i64 (a : Int) ∧ s8 = .int .i64 (b : Int) ∧ k = N - a ∧ Hid (b = a + 20) ∧ Hid (Chk 20 cs) ∧ Hid (a = cs.flatten.length) ∧ Hid (a + r.length = N) ∧ Hid (Stb l (cs.flatten ++ r)) ∧ Hid (SWL w blk off (cs.flatten ++ r) wr))
  case atStart => exact ⟨[], l, 0, 20, rfl, rfl, rfl, Lib.hid rfl, Lib.hid (by simp [Chk]), Lib.hid rfl, Lib.hid (by rw [Nat.zero_add]; exact HNN.out.symm), Lib.hid (Stb.refl l), HS0⟩
  case round =>
    obtain ⟨cs, r, a, b, rfl, rfl, rfl, HB, HC, HA, HL, HST, HS⟩ := hrel
    clear HS0
    have hab : b = a + 20 := HB.out
    have har : a + r.length = N := HL.out
    have haN : a ≤ N := by omega
    have hbN : b ≤ N + 20 := by omega
    by_cases hlt : b ≤ N
    · have hltz : (b : Int) ≤ (N : Int) := by omega
      have HI : Hid (Calls Tryz.prog 127 #[.slice (some ⟨blk, off, none⟩) N cap, .int .i64 a, .int .i64 b, .func (.func 91) #[] #[]] wr (SwOk w blk off (cs.flatten ++ isort (r.take 20) ++ r.drop 20))) := by
        have h20 : (r.take 20).length = 20 := by rw [List.length_take]; omega
        have a1 := HA.out
        have hs := HS.out
        rw [← List.take_append_drop 20 r, ← List.append_assoc] at hs
        exact Lib.hid (ins_list w blk off cap N l HR.out cs.flatten (r.take 20) (r.drop 20) a b a1 (by omega) HNN.out (by simp only [List.length_append, List.length_drop]; omega) (by omega) wr hs)
      clear hab har
      go_wp2_with (first | (go_at_call 127; refine HI.out.mono ?_; rintro e w2 ⟨rfl, hS2⟩) | fail)
      go_roundg (N - b)
      case measure => have := HB.out; omega
      case rel =>
        have hab := HB.out
        have har := HL.out
        have h20 : (r.take 20).length = 20 := by rw [List.length_take]; omega
        have a1 := HA.out
        refine ⟨cs ++ [isort (r.take 20)], r.drop 20, b, b + 20, rfl, by go_num, rfl, Lib.hid rfl, Lib.hid (chk_snoc HC.out (by rw [isort_len]; exact h20) (isort_srt _)), Lib.hid ?_, Lib.hid ?_, Lib.hid ?_, Lib.hid ?_⟩
        · rw [flat_snoc, List.length_append, isort_len, h20]; omega
        · rw [List.length_drop]; omega
        · refine HST.out.trans ?_
          rw [flat_snoc]
          conv => lhs; rw [← List.take_append_drop 20 r, ← List.append_assoc]
          exact stb_mid1
        · rw [flat_snoc]; exact hS2
    · have hltz : ¬ (b : Int) ≤ (N : Int) := by omega
      have HI : Hid (Calls Tryz.prog 127 #[.slice (some ⟨blk, off, none⟩) N cap, .int .i64 a, .int .i64 N, .func (.func 91) #[] #[]] wr (SwOk w blk off (cs.flatten ++ isort r ++ []))) := by
        have a1 := HA.out
        have hs := HS.out
        rw [← List.append_nil (cs.flatten ++ r)] at hs
        exact Lib.hid (ins_list w blk off cap N l HR.out cs.flatten r [] a N a1 (by omega) HNN.out (by simp only [List.length_append, List.length_nil]; omega) (by omega) wr hs)
      have HW : Hid (WBlk 20 (cs.flatten ++ isort r)) := Lib.hid ⟨cs, isort r, rfl, HC.out, by rw [isort_len]; omega, isort_srt _⟩
      have HST2 : Hid (Stb l (cs.flatten ++ isort r)) := Lib.hid (HST.out.trans ((Stb.refl _).append (isort_stb r)))
      have HL2 : Hid ((cs.flatten ++ isort r).length = N) := Lib.hid (by have := HA.out; rw [List.length_append, isort_len]; omega)
      rw [List.append_nil] at HI
      obtain ⟨L0, hL0⟩ : ∃ L0, cs.flatten ++ isort r = L0 := ⟨_, rfl⟩
      rw [hL0] at HI HW HST2 HL2
      clear hL0 HS HST HA HB HC HL hab har
      go_wp2_with (first | (go_at_call 127; refine HI.out.mono ?_; rintro e w2 ⟨rfl, hS2⟩) | fail)
      have HS2 := Lib.hid hS2
      clear hS2 HI
      go_loopg [6] (N - 20) (fun k s6 wr => ∃ (bs : Nat) (L : List C), s6 = .int .i64 (bs : Int) ∧ k = N - bs ∧ 20 ≤ bs ∧ bs ≤ 2 * N + 20 ∧ Hid (WBlk bs L) ∧ Hid (Stb l L) ∧ Hid (L.length = N) ∧ Hid (SWL w blk off L wr))
      case atStart => exact ⟨20, L0, rfl, rfl, Nat.le_refl _, by omega, HW, HST2, HL2, HS2⟩
      case round =>
        obtain ⟨bs, L, rfl, rfl, hb20, hbN, HW, HST, HL, HS⟩ := hrel
        clear HS2 HST2 HL2
        by_cases hbn : bs < N
        · have hbz : (bs : Int) < (N : Int) := by omega
          obtain ⟨b2, hb2⟩ : ∃ b2, b2 = 2 * bs := ⟨_, rfl⟩
          have eb2 : 2 * (bs : Int) = (b2 : Int) := by omega
          have eb3 : (bs : Int) * 2 = (b2 : Int) := by omega
          have hb2N : b2 ≤ 2 * N := by omega
          have HB2 := Lib.hid hb2
          have HSM := Lib.hid (sm_any w blk off cap N l HR.out HNN.out (by omega) (N + 1))
          clear hb2
          go_wp2_with fail
          go_loopg [7, 8] N (fun k s7 s8 wr => ∃ (ds cs : List (List C)) (t : List C) (a b : Nat), s7 = .int .i64 (a : Int) ∧ s8 = .int .i64 (b : Int) ∧ k = N - a ∧ Hid (b = a + b2) ∧ Hid (Chk b2 ds) ∧ Hid (Chk bs cs) ∧ Hid (t.length < bs) ∧ Hid (Srt t) ∧ Hid (a = ds.flatten.length) ∧ Hid (a + cs.flatten.length + t.length = N) ∧ Hid (Stb l (ds.flatten ++ (cs.flatten ++ t))) ∧ Hid (SWL w blk off (ds.flatten ++ (cs.flatten ++ t)) wr))
          case atStart =>
            obtain ⟨cs, t, e, hc, ht, hst⟩ := HW.out
            refine ⟨[], cs, t, 0, b2, rfl, rfl, rfl, Lib.hid (by omega), Lib.hid (by simp [Chk]), Lib.hid hc, Lib.hid ht, Lib.hid hst, Lib.hid rfl, Lib.hid ?_, Lib.hid ?_, Lib.hid ?_⟩
            · have := HL.out; rw [e, List.length_append] at this; omega
            · rw [← e]; exact HST.out
            · rw [← e]; exact HS.out
          case round =>
            obtain ⟨ds, cs, t, a, b, rfl, rfl, rfl, HB, HD, HC, HT, HTS, HA, HN2, HST2, HS2⟩ := hrel
            clear HS HST HL HW
            have hab : b = a + b2 := HB.out
            have hbb : b2 = 2 * bs := HB2.out
            have hn2 : a + cs.flatten.length + t.length = N := HN2.out
            have ht := HT.out
            have haN : a ≤ N := by omega
            have hbM : b ≤ 3 * N := by omega
            by_cases hlt : b ≤ N
            · have hltz : (b : Int) ≤ (N : Int) := by omega
              obtain ⟨c1, c2, cs', rfl⟩ : ∃ c1 c2 cs', cs = c1 :: c2 :: cs' := by
                rcases cs with _ | ⟨c1, _ | ⟨c2, cs'⟩⟩
                · simp at hn2; omega
                · have := (HC.out c1 (by simp)).1
                  simp at hn2; omega
                · exact ⟨c1, c2, cs', rfl⟩
              have k1 := HC.out c1 (by simp)
              have k2 := HC.out c2 (by simp)
              have hHC2 : Hid (Chk bs cs') := Lib.hid (fun x hx => HC.out x (by simp [hx]))
              simp only [List.flatten_cons, List.length_append] at hn2
              obtain ⟨m, hm⟩ : ∃ m, m = a + bs := ⟨_, rfl⟩
              have em : (a : Int) + (bs : Int) = (m : Int) := by omega
              have HI : Hid (Calls Tryz.prog 128 #[.slice (some ⟨blk, off, none⟩) N cap, .int .i64 a, .int .i64 m, .int .i64 b, .func (.func 91) #[] #[]] wr (SwOk w blk off (ds.flatten ++ isort (c1 ++ c2) ++ (cs'.flatten ++ t)))) := by
                have a1 := HA.out
                have hs := HS2.out
                simp only [List.flatten_cons] at hs
                exact Lib.hid (HSM.out ds.flatten c1 c2 (cs'.flatten ++ t) a m b (by omega) a1 (by omega) (by omega) (by omega) (by omega) k1.2 k2.2 (by simp only [List.length_append]; omega) wr (by simpa only [List.append_assoc] using hs))
              obtain ⟨b', hb'⟩ : ∃ b', b' = b + b2 := ⟨_, rfl⟩
              have eb' : (b : Int) + (b2 : Int) = (b' : Int) := by omega
              have HB' := Lib.hid hb'
              have hb'N : b' ≤ 5 * N := by omega
              have hlen12 : (isort (c1 ++ c2)).length = b2 := by rw [isort_len, List.length_append]; omega
              have H12 := Lib.hid hlen12
              have HN3 : Hid (b + cs'.flatten.length + t.length = N) := Lib.hid (by omega)
              have HA3 : Hid (b = (ds ++ [isort (c1 ++ c2)]).flatten.length) := Lib.hid (by rw [flat_snoc, List.length_append, hlen12]; have := HA.out; omega)
              have HST3 : Hid (Stb l ((ds ++ [isort (c1 ++ c2)]).flatten ++ (cs'.flatten ++ t))) := Lib.hid (by
                refine HST2.out.trans ?_
                rw [flat_snoc, List.flatten_cons, List.flatten_cons]
                have := stb_mid (P := ds.flatten) (X := c1) (Y := c2) (S := cs'.flatten ++ t)
                simpa only [List.append_assoc] using this)
              have hlba : a < b := by omega
              clear hab hbb hn2 ht hm hb' hlen12 k1 k2 HST2 HS2 HN2 HA HC
              go_wp2_with (first | (go_at_call 128; refine HI.out.mono ?_; rintro e w3 ⟨rfl, hS3⟩) | fail)
              go_roundg (N - b)
              case measure => omega
              case rel => exact ⟨ds ++ [isort (c1 ++ c2)], cs', t, b, b', rfl, by first | rfl | go_num, rfl, HB', Lib.hid (chk_snoc HD.out H12.out (isort_srt _)), hHC2, HT, HTS, HA3, HN3, HST3, Lib.hid (by rw [flat_snoc]; exact hS3)⟩
            · have hltz : ¬ (b : Int) ≤ (N : Int) := by omega
              obtain ⟨m, hm⟩ : ∃ m, m = a + bs := ⟨_, rfl⟩
              have em : (a : Int) + (bs : Int) = (m : Int) := by omega
              have hmM : m ≤ 2 * N := by omega
              by_cases hmN : m < N
              · have hmz : (m : Int) < (N : Int) := by omega
                obtain ⟨c1, rfl⟩ : ∃ c1, cs = [c1] := by
                  rcases cs with _ | ⟨c1, _ | ⟨c2, cs'⟩⟩
                  · simp at hn2; omega
                  · exact ⟨c1, rfl⟩
                  · have := (HC.out c1 (by simp)).1
                    have := (HC.out c2 (by simp)).1
                    simp at hn2; omega
                have k1 := HC.out c1 (by simp)
                simp only [List.flatten_cons, List.flatten_nil, List.append_nil] at hn2
                have HI : Hid (Calls Tryz.prog 128 #[.slice (some ⟨blk, off, none⟩) N cap, .int .i64 a, .int .i64 m, .int .i64 N, .func (.func 91) #[] #[]] wr (SwOk w blk off (ds.flatten ++ isort (c1 ++ t) ++ []))) := by
                  have a1 := HA.out
                  have hs := HS2.out
                  simp only [List.flatten_cons, List.flatten_nil, List.append_nil] at hs
                  exact Lib.hid (HSM.out ds.flatten c1 t [] a m N (by omega) a1 (by omega) (by omega) (by omega) (by omega) k1.2 HTS.out (by simp only [List.length_append, List.length_nil]; omega) wr (by simpa only [List.append_assoc, List.append_nil] using hs))
                rw [List.append_nil] at HI
                have HW3 : Hid (WBlk b2 (ds.flatten ++ isort (c1 ++ t))) := Lib.hid ⟨ds, isort (c1 ++ t), rfl, HD.out, by rw [isort_len, List.length_append]; omega, isort_srt _⟩
                have HST3 : Hid (Stb l (ds.flatten ++ isort (c1 ++ t))) := Lib.hid (by
                  refine HST2.out.trans ?_
                  simp only [List.flatten_cons, List.flatten_nil, List.append_nil]
                  exact (Stb.refl _).append (isort_stb _))
                have HL3 : Hid ((ds.flatten ++ isort (c1 ++ t)).length = N) := Lib.hid (by rw [List.length_append, isort_len, List.length_append]; have := HA.out; omega)
                have hlb : 20 ≤ b2 := by omega
                have hbs : N - b2 < N - bs := by omega
                clear hab hbb hn2 ht hm k1 HST2 HS2 HN2 HA HC HB HT HTS HD eb2
                go_wp2_with (first | (go_at_call 128; refine HI.out.mono ?_; rintro e w3 ⟨rfl, hS3⟩) | fail)
                go_roundg (N - b2)
                case measure => exact hbs
                case rel => exact ⟨b2, _, by first | rfl | go_num, rfl, hlb, by omega, HW3, HST3, HL3, Lib.hid hS3⟩
              · have hmz : ¬ (m : Int) < (N : Int) := by omega
                have HW3 : Hid (WBlk b2 (ds.flatten ++ (cs.flatten ++ t))) := by
                  rcases cs with _ | ⟨c1, _ | ⟨c2, cs'⟩⟩
                  · exact Lib.hid ⟨ds, t, by simp, HD.out, by omega, HTS.out⟩
                  · have k1 := HC.out c1 (by simp)
                    simp at hn2
                    have : t = [] := List.eq_nil_of_length_eq_zero (by omega)
                    subst this
                    exact Lib.hid ⟨ds, c1, by simp, HD.out, by omega, k1.2⟩
                  · have := (HC.out c1 (by simp)).1
                    have := (HC.out c2 (by simp)).1
                    simp at hn2; omega
                have HL3 : Hid ((ds.flatten ++ (cs.flatten ++ t)).length = N) := Lib.hid (by rw [List.length_append, List.length_append]; have := HA.out; omega)
                have hlb : 20 ≤ b2 := by omega
                have hbs : N - b2 < N - bs := by omega
                clear hab hbb hn2 ht hm HN2 HA HC HB HT HTS HD eb2
                go_wp2_with fail
                go_roundg (N - b2)
                case measure => exact hbs
                case rel => exact ⟨b2, _, by first | rfl | go_num, rfl, hlb, by omega, HW3, HST2, HL3, HS2⟩
        · have hbz : ¬ (bs : Int) < (N : Int) := by omega
          go_wp2_with fail
          go_end0
          refine ⟨rfl, ?_⟩
          have h1 := wblk_end HW.out (by rw [HL.out]; omega)
          rw [← isort_of h1 HST.out]
          exact HS.out

theorem stableCmp_any : StableCmpOk 100000 := by
  intro blk off cap d w hH hb hd
  have R : RowC w blk off d.toList := ⟨encC_len, encC_one, by simpa using hH, hb⟩
  have h := stable_list_any blk off cap d.size d.toList w R (by simp) hd
  exact h
theorem stable_any : StableOk 100000 := stable_of_cmp stableCmp_any
end Go.Proofs.YtenfdnnagijfnaaGreatDoor
