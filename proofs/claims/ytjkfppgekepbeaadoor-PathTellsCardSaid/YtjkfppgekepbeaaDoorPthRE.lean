/-
  fasciaref16: Shorten, Walk.
-/
import Derived.Test.YtjkfppgekepbeaaDoorPthRD
import Derived.Test.YtjkfppgekepbeaaDoorPthN
namespace Go.Proofs.YtjkfppgekepbeaaDoor.Pth
set_option maxRecDepth 100000
open Go.RowKit Go.Shelf Utf Ut Hst

theorem made_mk {P : List ByteArray} {k c : Nat} {A : Option Addr} {w w' : World} (hk : P.length = k) (hO : w'.ownsRow w.heap.size 9 1 (.slice A k c) k (sx P)) (hB : Below w.heap.size w w') : MadeTexts P w (.returned (.slice A k c)) w' := by
  subst hk
  exact ⟨A, c, rfl, hO, hB⟩
theorem rowS_take {w : World} {B : Nat} {A : Option Addr} {l : List ByteArray} (h : Row w B A (sx l)) (k : Nat) : Row w B A (sx (l.take k)) := by
  rcases h with h | ⟨b, o, hA, hb, hc⟩
  · have : l = [] := by simpa [sx] using h
    subst this
    exact .inl (by simp [sx])
  · refine .inr ⟨b, o, hA, hb, fun i hi => ?_⟩
    rw [List.length_map, List.length_take] at hi
    rw [hc i (by rw [List.length_map]; omega), List.getElem?_map, List.getElem?_map, List.getElem?_take_of_lt (by omega)]
set_option maxHeartbeats 4000000 in
theorem RShorten_any (s : ByteArray) (l : List ByteArray) (A : Option Addr) (n c : Nat) (w : World) (hn : l.length = n) (hc : n ≤ c) (hm : n ≤ 1000000) (hr : Row w w.heap.size A (sx l)) :
    Calls Tryd.prog 20 #[.string s, .slice A n c] w (MadeTexts (shr (fil s) l) w) := by
  have hf := fil_beq s
  have HX := Lib.hid (shr_take (fil s) l)
  obtain ⟨f, hff⟩ : ∃ f, fil s = f := ⟨_, rfl⟩
  rw [hff] at hf HX ⊢
  clear hff
  have HN := Lib.hid hn
  have hshr : shr f l = if l.isEmpty || (f && soleD l) then l else l.dropLast := rfl
  obtain ⟨P, hP⟩ : ∃ P, shr f l = P := ⟨_, rfl⟩
  rw [hP] at hshr HX ⊢
  clear hP
  rcases Nat.eq_zero_or_pos n with h0 | h0
  · subst h0
    have hl : l = [] := List.eq_nil_of_length_eq_zero hn
    have hk : P.length = 0 := by rw [hshr, hl]; rfl
    have hrk : Row w w.heap.size A (sx P) := by
      have h := rowS_take hr P.length
      rwa [← HX.out] at h
    have HRK := Lib.hid hrk
    have HK := Lib.hid hk
    have hsl : ∀ W, (Instr.sliceAt 23 (.slice A 0 c) none (some (.int .i64 0)) none).run Tryd.prog W = .ok (.slice A 0 c) W := fun W => sl_hSt A 0 c 0 (by omega) W
    clear hl hk hrk hshr hr hn HX HN
    go_enter Tryd.func20, Tryd.ntmps20
    go_wp2_with (first | (at_builtin; refine wpList_appR w.heap.size _ rfl _ _ rfl (.slice none 0 0) 0 0 [] P rfl (World.ownsRow_nil _ _ _ _) (Nat.le_refl _) A 0 c rfl HK.out HRK.out (by omega) (by omega) ?_; intro A1 c1 w1 hO1 hB1) | fail)
    go_ret
    exact made_mk HK.out hO1 hB1
  · have hne : l.isEmpty = false := by cases l with
      | nil => simp at hn; omega
      | cons => rfl
    rw [hne, Bool.false_or] at hshr
    have hz0 : ¬ (n : Int) - 1 < 0 := by omega
    have cut : (f && soleD l) = false → P.length = n - 1 := fun h => by
      rw [hshr, h, if_neg (by decide), List.length_dropLast, hn]
    have keep : (f && soleD l) = true → P.length = n := fun h => by
      rw [hshr, h, if_pos rfl, hn]
    have HC := Lib.hid cut
    have HKP := Lib.hid keep
    have hrk : Row w w.heap.size A (sx P) := by
      have h := rowS_take hr P.length
      rwa [← HX.out] at h
    have HRP := Lib.hid hrk
    clear hrk
    have hsl : ∀ W, (Instr.sliceAt 23 (.slice A n c) none (some (.int .i64 ((n : Int) - 1))) none).run Tryd.prog W = .ok (.slice A (n - 1) c) W := fun W => by
      have := sl_hSt A n c (n - 1) (by omega) W
      rw [show (((n - 1 : Nat)) : Int) = (n : Int) - 1 by omega] at this
      exact this
    clear cut keep hshr hne
    cases f with
    | false =>
      have HK : Hid (P.length = n - 1) := Lib.hid (HC.out rfl)
      clear HC HKP hr hn HX
      go_enter Tryd.func20, Tryd.ntmps20
      go_wp2_with (first | (at_builtin; refine wpList_appR w.heap.size _ rfl _ _ rfl (.slice none 0 0) 0 (n - 1) [] P rfl (World.ownsRow_nil _ _ _ _) (Nat.le_refl _) A (n - 1) c rfl HK.out HRP.out (by omega) (by omega) ?_; intro A1 c1 w1 hO1 hB1) | fail)
      go_ret
      exact made_mk HK.out hO1 hB1
    | true =>
      by_cases h1 : n = 1
      · subst h1
        obtain ⟨x, rfl⟩ := List.length_eq_one_iff.1 hn
        obtain ⟨b, o, rfl, hb, hcc⟩ := hr.at_ (by simp)
        have c0 : w.cell? ⟨b, o, none⟩ = some (.string x) := hcc 0 (by simp)
        have HPL := Lib.hid (RPlain_any x w)
        have hsd : soleD [x] = nmd x := rfl
        obtain ⟨v, hv⟩ : ∃ v, nmd x = v := ⟨_, rfl⟩
        rw [hsd, hv] at HC HKP
        rw [hv] at HPL
        clear hsd hv hcc hr hn HX hsl h0
        cases v with
        | false =>
          have HK : Hid (P.length = 0) := Lib.hid (HC.out rfl)
          have hsl : ∀ W, (Instr.sliceAt 23 (.slice (some ⟨b, o, none⟩) 1 c) none (some (.int .i64 0)) none).run Tryd.prog W = .ok (.slice (some ⟨b, o, none⟩) 0 c) W := fun W => sl_hSt _ 1 c 0 (by omega) W
          clear HC HKP
          go_enter Tryd.func20, Tryd.ntmps20
          go_wp2_with (first
            | (go_at_call 34; refine HPL.out.mono ?_; rintro e w0 ⟨rfl, hB0⟩)
            | (at_builtin; refine wpList_appR w.heap.size _ rfl _ _ rfl (.slice none 0 0) 0 0 [] P rfl (World.ownsRow_nil _ _ _ _) hB0.size (some ⟨b, o, none⟩) 0 c rfl HK.out ((HRP.out.below hB0).mono hB0.size) (by omega) (by omega) ?_; intro A1 c1 w1 hO1 hB1) | fail)
          go_ret
          exact made_mk HK.out hO1 (hB0.trans hB1)
        | true =>
          have HK : Hid (P.length = 1) := Lib.hid (HKP.out rfl)
          have hsl : ∀ W, (Instr.sliceAt 23 (.slice (some ⟨b, o, none⟩) 1 c) none (some (.int .i64 1)) none).run Tryd.prog W = .ok (.slice (some ⟨b, o, none⟩) 1 c) W := fun W => sl_hSt _ 1 c 1 (by omega) W
          clear HC HKP
          go_enter Tryd.func20, Tryd.ntmps20
          go_wp2_with (first
            | (go_at_call 34; refine HPL.out.mono ?_; rintro e w0 ⟨rfl, hB0⟩)
            | (at_builtin; refine wpList_appR w.heap.size _ rfl _ _ rfl (.slice none 0 0) 0 1 [] P rfl (World.ownsRow_nil _ _ _ _) hB0.size (some ⟨b, o, none⟩) 1 c rfl HK.out ((HRP.out.below hB0).mono hB0.size) (by omega) (by omega) ?_; intro A1 c1 w1 hO1 hB1) | fail)
          go_ret
          exact made_mk HK.out hO1 (hB0.trans hB1)
      · have HK : Hid (P.length = n - 1) := Lib.hid (HC.out (by rw [sole_one (by omega)]; rfl))
        have hz1 : ((n : Int) - 1 == 0) = false := by rw [beq_eq_false_iff_ne]; omega
        clear HC HKP hr hn HX
        go_enter Tryd.func20, Tryd.ntmps20
        go_wp2_with (first | (at_builtin; refine wpList_appR w.heap.size _ rfl _ _ rfl (.slice none 0 0) 0 (n - 1) [] P rfl (World.ownsRow_nil _ _ _ _) (Nat.le_refl _) A (n - 1) c rfl HK.out HRP.out (by omega) (by omega) ?_; intro A1 c1 w1 hO1 hB1) | fail)
        go_ret
        exact made_mk HK.out hO1 hB1
/-- a walk, code point by code point -/
def fwd (sp fl : Bool) : List ByteArray → List Int → List Int → List ByteArray
  | out, cur, [] => stp fl out cur true
  | out, cur, r :: t => if sep sp r = true then fwd sp fl (stp fl out cur false) [] t else fwd sp fl out (cur ++ [r]) t
theorem fwd_wgo (sp fl : Bool) : ∀ (t : List Int) (out : List ByteArray) (cur p : List Int) (q : List (List Int)), prt sp t = p :: q → fwd sp fl out cur t = wgo fl out (mk ((cur ++ p) :: q))
  | [], out, cur, p, q, h => by
    rw [prt] at h
    injection h with h1 h2
    subst h1 h2
    rw [List.append_nil]
    rfl
  | r :: t, out, cur, p, q, h => by
    rw [prt_cons] at h
    cases hs : prt sp t with
    | nil => exact absurd hs (prt_ne sp t)
    | cons p2 q2 =>
      by_cases hr : sep sp r = true
      · rw [if_pos hr, hs] at h
        injection h with h1 h2
        subst h1 h2
        rw [fwd, if_pos hr, fwd_wgo sp fl t _ [] p2 q2 hs, List.append_nil]
        rfl
      · rw [if_neg hr, hs] at h
        injection h with h1 h2
        subst h1 h2
        rw [fwd, if_neg hr, fwd_wgo sp fl t _ (cur ++ [r]) p2 q2 hs]
        simp
theorem wlk_fwd (sp fl : Bool) (l : List ByteArray) (t : List Int) : wlk sp fl l t = fwd sp fl l [] t := by
  unfold wlk
  cases hs : prt sp t with
  | nil => exact absurd hs (prt_ne sp t)
  | cons p q => rw [fwd_wgo sp fl t l [] p q hs]; rfl
theorem sg_snoc (p : List Int) (r : Int) : sg p ++ strOfNums (pe [r]) = sg (p ++ [r]) := by
  unfold sg
  rw [show pe (p ++ [r]) = pe p ++ pe [r] from by unfold pe; rw [List.flatMap_append]]
  apply ByteArray.ext
  apply Array.toList_inj.1
  rw [ByteArray.data_append, Array.toList_append, strOfNums_data, strOfNums_data, strOfNums_data, List.map_append]
theorem dbA_sg (p : List Int) : dbA (sg p) = dbl (sg p) := by
  have : asc (dl (sg p)) = true := List.all_eq_true.2 fun b hb => decide_eq_true (sg_asc p b hb)
  unfold dbA
  rw [this, Bool.true_and]
theorem sgA_sg (p : List Int) : sgA (sg p) = sgl (sg p) := by
  have : asc (dl (sg p)) = true := List.all_eq_true.2 fun b hb => decide_eq_true (sg_asc p b hb)
  unfold sgA
  rw [this, Bool.true_and]
theorem pP_or (r : Int) : pP r = [r] ∨ 3 ≤ (pP r).length := by
  unfold pP
  split
  · right
    rw [cds_len]
    have := (encOne_len r).1
    omega
  · exact .inl rfl
theorem sg_bi (p : List Int) : bi (dl (sg p)) = pe p := bi_of (okc_Byt fun c hc => (pe_ok p c hc).1)
theorem pe_len2 {p : List Int} (h : (pe p).length = 2) : pe p = p := by
  match p, h with
  | [], h => cases h
  | [a], h =>
    simp only [pe, List.flatMap_cons, List.flatMap_nil, List.append_nil] at h ⊢
    rcases pP_or a with e | e
    · rw [e] at h; cases h
    · omega
  | [a, b], h =>
    simp only [pe, List.flatMap_cons, List.flatMap_nil, List.append_nil, List.length_append] at h ⊢
    rcases pP_or a with e | e <;> rcases pP_or b with e2 | e2
    · rw [e, e2]; rfl
    · rw [e] at h; simp at h; omega
    · rw [e2] at h; simp at h; omega
    · omega
  | a :: b :: c :: t, h =>
    simp only [pe, List.flatMap_cons, List.length_append] at h
    have l1 : ∀ r, 1 ≤ (pP r).length := fun r => by
      rcases pP_or r with e | e
      · rw [e]; simp
      · omega
    have := l1 a
    have := l1 b
    have := l1 c
    omega
theorem sg_len (p : List Int) : (sg p).size = (pe p).length := by
  have := congrArg List.length (sg_bi p)
  simpa [bi, dl] using this
theorem drv_sg {p : List Int} (h : (sg p).size = 2) : drv (rn (sg p)) = drv p := by
  rw [rn_asc (sg_asc p), sg_bi, pe_len2 (by rw [← sg_len]; exact h)]
theorem ltr_in {a : Int} (h : ltr a = true) : inP a = false := by
  have hr := ltr_rng h
  obtain ⟨n, rfl⟩ := Int.eq_ofNat_of_zero_le (show 0 ≤ a by omega)
  exact (okc_byt (ltr_fin ⟨n, by omega⟩ h).1).2.2
theorem drv_pe {p : List Int} (h : drv p = true) : pe p = p := by
  obtain ⟨a, b, rfl, ha, hb⟩ := drv_cases h
  have h1 : pP a = [a] := by unfold pP; rw [if_neg (by rw [ltr_in ha]; decide)]
  have h2 : pP b = [b] := by
    unfold pP
    rw [if_neg (by rcases hb with rfl | rfl <;> decide)]
  simp [pe, h1, h2]
theorem drv_size {p : List Int} (h : drv p = true) : (sg p).size = 2 := by
  rw [sg_len, drv_pe h]
  obtain ⟨a, b, rfl, _, _⟩ := drv_cases h
  rfl
theorem nrm_sg {p : List Int} (h : drv p = true) : (sg p).extract 0 1 ++ ⟨#[58]⟩ = nrm p := by
  have hp := drv_pe h
  obtain ⟨a, b, rfl, _, _⟩ := drv_cases h
  unfold sg nrm
  rw [hp]
  apply ByteArray.ext
  apply Array.toList_inj.1
  rw [ByteArray.data_append, Array.toList_append, ByteArray.data_extract, Array.toList_extract, strOfNums_data, strOfNums_data]
  rfl
end Go.Proofs.YtjkfppgekepbeaaDoor.Pth
