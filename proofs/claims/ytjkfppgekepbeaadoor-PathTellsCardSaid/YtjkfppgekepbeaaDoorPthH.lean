/-
  path: normal, step, Shorten.
-/
import Derived.Test.YtjkfppgekepbeaaDoorPthG
namespace Go.Proofs.YtjkfppgekepbeaaDoor.Pth
set_option maxRecDepth 100000
open Go.RowKit Utf Ut Hst

/-- a row of code points as a text -/
theorem conv_runes {w : World} {B : Nat} {A : Option Addr} {l : List Int} {n c : Nat} (hn : l.length = n) (hr : Row w B A (cl .i32 l)) :
    (convert 22 9 (.slice A n c)).run Tryd.prog w = .ok (.string (runesBytes l)) w := by
  subst hn
  cases A with
  | none =>
    have : l = [] := by
      rcases hr with h | ⟨b, o, h, _⟩
      · simpa [cl] using h
      · cases h
    subst this
    exact run_convert_runes_nil w 22 9 21 0 c Tryd.underlying22 Tryd.underlying21 Tryd.underlying9
  | some a =>
    have := run_convert_runes (P := Tryd.prog) w 22 9 21 a l.length c l (Nat.le_refl _) Tryd.underlying22 Tryd.underlying21 Tryd.underlying9 (fun j hj => by
      rcases hr with h | ⟨b, o, h, _, hc⟩
      · have : l = [] := by simpa [cl] using h
        subst this
        simp at hj
      · injection h with h
        subst h
        rw [Go.WideShapes.add_plain, hc j (by simpa [cl] using hj)]
        simp [cl, List.getElem?_eq_getElem hj])
    rw [List.take_length] at this
    exact this
theorem enc_asc (r : Nat) (h : r < 128) : Utf8.encode (r : Int) = ⟨#[UInt8.ofNat r]⟩ := by
  unfold Utf8.encode
  have hv : Utf8.valid (r : Int) = true := by
    simp [Utf8.valid]
    omega
  simp only [hv, if_true, Int.toNat_natCast, h]
theorem runes_two {a : Int} (h0 : 0 ≤ a) (h1 : a < 128) : runesBytes [a, 58] = strOfNums [a, 58] := by
  obtain ⟨n, rfl⟩ := Int.eq_ofNat_of_zero_le h0
  have e1 := enc_asc n (by omega)
  have e2 := enc_asc 58 (by decide)
  unfold runesBytes
  rw [List.foldl_cons, List.foldl_cons, List.foldl_nil, e1, show ((58 : Int)) = ((58 : Nat) : Int) from rfl, e2]
  apply ByteArray.ext
  apply Array.toList_inj.1
  rw [strOfNums_data]
  rfl
set_option maxHeartbeats 1000000 in
theorem normal_any (p : List Int) (hp : drv p = true) (A : Option Addr) (n c : Nat) (w : World) (hn : p.length = n) (hr : Row w w.heap.size A (cl .i32 p)) : Calls Tryd.prog 55 #[.slice A n c] w (fun e w' => e = .returned (.string (nrm p)) ∧ Below w.heap.size w w') := by
  obtain ⟨a, b, rfl, ha, _⟩ := drv_cases hp
  have har := ltr_rng ha
  obtain rfl : n = 2 := hn.symm
  obtain ⟨g, o, rfl, hb, hc⟩ := hr.at_ (by simp)
  have c0 : w.cell? ⟨g, o, none⟩ = some (.int .i32 a) := hc 0 (by simp)
  have hcv : (convert 22 9 (.slice (some ⟨w.heap.size, 0, none⟩) 2 2)).run Tryd.prog (w.alloc (.cells #[.int .i32 a, .int .i32 58] 21)) = .ok (.string (nrm [a, b])) (w.alloc (.cells #[.int .i32 a, .int .i32 58] 21)) := by
    have := conv_runes (l := [a, 58]) (n := 2) (c := 2) rfl (row_new w #[.int .i32 a, .int .i32 58] 21 [.int .i32 a, .int .i32 58] rfl)
    rw [runes_two (by omega) (by omega)] at this
    exact this
  obtain ⟨S, hS⟩ : ∃ S, nrm [a, b] = S := ⟨_, rfl⟩
  rw [hS] at hcv ⊢
  clear hS hc hr hn hp
  go_enter Tryd.func55, Tryd.ntmps55
  go_wp2_with fail
  go_ret
  exact ⟨rfl, upA w _⟩
/-- a path behind one part -/
def StepR (l : List ByteArray) (B : Nat) (row : Option Nat) (w : World) (e : Ending) (w' : World) : Prop := ∃ A c, e = .returned (.slice A l.length c) ∧ w'.ownsRow B 9 1 (.slice A l.length c) l.length (sx l) ∧ w.grownBy w' row
theorem stepR_mk {l l' : List ByteArray} {B : Nat} {row : Option Nat} {w w' : World} {A : Option Addr} {c n : Nat} (hl : l = l') (hn : l'.length = n) (hO : w'.ownsRow B 9 1 (.slice A n c) n (sx l')) (hB : w.grownBy w' row) : StepR l B row w (.returned (.slice A n c)) w' := by
  subst hl hn
  exact ⟨A, c, rfl, hO, hB⟩
theorem step_grown {w w1 w2 : World} {A : Option Addr} {n c : Nat} (h : Below w.heap.size w w1) (g : w1.grownBy w2 (Value.slice A n c).ownBlock) : w.grownBy w2 (ownB A) := by
  rw [own_B] at g
  exact (grown_of h _).trans g
theorem sg_asc (p : List Int) : ∀ b ∈ dl (sg p), b.toNat < 128 := by
  intro b hb
  have h1 : (b.toNat : Int) ∈ bi (dl (sg p)) := List.mem_map.2 ⟨b, hb, rfl⟩
  rw [sg, bi_of (okc_Byt fun c hc => (pe_ok p c hc).1)] at h1
  have := okc_byt (pe_ok p _ h1).1
  omega
theorem sg_size (p : List Int) : (sg p).size ≤ 12 * p.length := by
  have h1 := pe_len p
  have h2 : (sg p).size = (pe p).length := by
    rw [Lib.size_eq, sg, strOfNums_data, List.length_map]
  omega
set_option maxHeartbeats 4000000 in
theorem step_any (s : ByteArray) (l : List ByteArray) (A : Option Addr) (n c : Nat) (p : List Int) (A2 : Option Addr) (m c2 : Nat) (last : Bool) (B : Nat) (w : World) (hB : B ≤ w.heap.size) (hn : l.length = n) (hn1 : n ≤ 1000000) (hO : w.ownsRow B 9 1 (.slice A n c) n (sx l)) (hm : p.length = m) (hm1 : m ≤ 20000) (hr : Row w B A2 (cl .i32 p)) :
    Calls Tryd.prog 36 #[.string s, .slice A n c, .slice A2 m c2, .bool last] w (StepR (stp (fil s) l p last) B (ownB A) w) := by
  have hnc : n ≤ c := by
    obtain ⟨A1, c1, hv, hc, _⟩ := own_form hO
    cases hv
    exact hc
  have HB0 := Lib.hid hB
  have HO := Lib.hid hO
  have HN := Lib.hid hn
  have HE := Lib.hid (Encode5_any p A2 m c2 w hm hm1 (hr.mono hB))
  have HS := Lib.hid (fun W (h : Below w.heap.size w W) => shorter_any s l A n c W hn hnc hn1 (Row.of_own (own_below hO h)))
  have HD := Lib.hid (fun W => Double_asc (s := sg p) (by have := sg_size p; omega) (sg_asc p) W)
  have HG := Lib.hid (fun W => Single_asc (s := sg p) (by have := sg_size p; omega) (sg_asc p) W)
  have HV := Lib.hid (fun W (h : Below w.heap.size w W) => Drive_any p A2 m c2 W hm ((hr.mono hB).below h |>.mono h.size))
  have HM := Lib.hid (fun (hp : drv p = true) W (h : Below w.heap.size w W) => normal_any p hp A2 m c2 W hm ((hr.mono hB).below h |>.mono h.size))
  have hf := fil_beq s
  have HT := Lib.hid (fun k (hk : k ≤ n) => own_take hO hk)
  have HX := Lib.hid (shr_take (fil s) l)
  have HXL := Lib.hid (shr_le (fil s) l)
  have HST : Hid (stp (fil s) l p last = if dbl (sg p) = true then shr (fil s) l ++ (if last then [ByteArray.empty] else []) else if sgl (sg p) = true then l ++ (if last then [ByteArray.empty] else []) else if (fil s && l.isEmpty && drv p) = true then l ++ [nrm p] else l ++ [sg p]) := Lib.hid rfl
  have HIE : Hid (l.isEmpty = decide (n = 0)) := Lib.hid (by rw [← hn]; cases l <;> simp)
  unfold EncP at HE
  rw [show strOfNums (pe p) = sg p from rfl] at HE
  obtain ⟨f, hff⟩ : ∃ f, fil s = f := ⟨_, rfl⟩
  rw [hff] at hf HS HX HXL HST ⊢
  obtain ⟨S, hS⟩ : ∃ S, sg p = S := ⟨_, rfl⟩
  rw [hS] at HE HD HG HST
  obtain ⟨d, hd⟩ : ∃ d, dbl S = d := ⟨_, rfl⟩
  rw [hd] at HD HST
  obtain ⟨q, hq⟩ : ∃ q, sgl S = q := ⟨_, rfl⟩
  rw [hq] at HG HST
  obtain ⟨k, hk⟩ : ∃ k, (shr f l).length = k := ⟨_, rfl⟩
  rw [hk] at HS HX HXL
  have HK := Lib.hid hk
  clear hff hS hd hq hk hO hr hn hm
  have key : ∀ (P : List ByteArray), stp f l p last = P → Calls Tryd.prog 36 #[.string s, .slice A n c, .slice A2 m c2, .bool last] w (StepR P B (ownB A) w) := by
    intro P hP
    rw [HST.out] at hP
    have HP := Lib.hid hP
    clear hP HST
    cases d with
    | true =>
      have hkn : k ≤ n := by have := HXL.out; have := HN.out; omega
      have HOk := Lib.hid (HT.out k hkn)
      rw [show (sx l).take k = sx (shr f l) from by rw [HX.out]; exact List.map_take.symm] at HOk
      cases last with
      | true =>
        have HPP : Hid (P = shr f l ++ [ByteArray.empty]) := Lib.hid (by rw [← HP.out]; rfl)
        clear HP
        go_enter Tryd.func36, Tryd.ntmps36
        go_wp2_with (first
          | (go_at_call 25; refine HE.out.mono ?_; rintro e w1 ⟨rfl, hB1⟩)
          | (go_at_call 12; refine (HD.out _).mono ?_; rintro e w2 ⟨rfl, hB2⟩; have hB12 := upB hB1 hB2)
          | (go_at_call 33; refine (HS.out _ hB12).mono ?_; rintro e w3 ⟨rfl, rfl⟩)
          | (at_builtin; go_loud (refine wpList_appS B w2 rfl _ _ rfl (.slice A k c) k (k + 1) (shr f l) ByteArray.empty rfl (own_below HOk.out hB12) (Nat.le_trans HB0.out hB12.size) rfl rfl (by omega) ?_; intro A4 c4 w4 hO4 hB4 hG4))
          | fail)
        go_ret
        exact stepR_mk HPP.out (by rw [List.length_append, HK.out]; rfl) hO4 (step_grown hB12 hG4)
      | false =>
        have HPP : Hid (P = shr f l) := Lib.hid (by rw [← HP.out]; simp)
        clear HP
        go_enter Tryd.func36, Tryd.ntmps36
        go_wp2_with (first
          | (go_at_call 25; refine HE.out.mono ?_; rintro e w1 ⟨rfl, hB1⟩)
          | (go_at_call 12; refine (HD.out _).mono ?_; rintro e w2 ⟨rfl, hB2⟩; have hB12 := upB hB1 hB2)
          | (go_at_call 33; refine (HS.out _ hB12).mono ?_; rintro e w3 ⟨rfl, rfl⟩)
          | fail)
        go_ret
        exact stepR_mk HPP.out HK.out (own_below HOk.out hB12) (grown_of hB12 _)
    | false =>
      cases q with
      | true =>
        cases last with
        | true =>
          have HPP : Hid (P = l ++ [ByteArray.empty]) := Lib.hid (by rw [← HP.out]; rfl)
          clear HP
          go_enter Tryd.func36, Tryd.ntmps36
          go_wp2_with (first
            | (go_at_call 25; refine HE.out.mono ?_; rintro e w1 ⟨rfl, hB1⟩)
            | (go_at_call 12; refine (HD.out _).mono ?_; rintro e w2 ⟨rfl, hB2⟩; have hB12 := upB hB1 hB2)
            | (go_at_call 10; refine (HG.out _).mono ?_; rintro e w3 ⟨rfl, hB3⟩; have hB13 := upB hB12 hB3)
            | (at_builtin; go_loud (refine wpList_appS B w3 rfl _ _ rfl (.slice A n c) n (n + 1) l ByteArray.empty rfl (own_below HO.out hB13) (Nat.le_trans HB0.out hB13.size) rfl rfl (by omega) ?_; intro A4 c4 w4 hO4 hB4 hG4))
            | fail)
          go_ret
          exact stepR_mk HPP.out (by rw [List.length_append, HN.out]; rfl) hO4 (step_grown hB13 hG4)
        | false =>
          have HPP : Hid (P = l) := Lib.hid (by rw [← HP.out]; simp)
          clear HP
          go_enter Tryd.func36, Tryd.ntmps36
          go_wp2_with (first
            | (go_at_call 25; refine HE.out.mono ?_; rintro e w1 ⟨rfl, hB1⟩)
            | (go_at_call 12; refine (HD.out _).mono ?_; rintro e w2 ⟨rfl, hB2⟩; have hB12 := upB hB1 hB2)
            | (go_at_call 10; refine (HG.out _).mono ?_; rintro e w3 ⟨rfl, hB3⟩; have hB13 := upB hB12 hB3)
            | fail)
          go_ret
          exact stepR_mk HPP.out HN.out (own_below HO.out hB13) (grown_of hB13 _)
      | false =>
        have plain : Hid ((f && l.isEmpty && drv p) = false → P = l ++ [S]) := Lib.hid (fun h => by rw [← HP.out]; simp [h])
        have dr : Hid ((f && l.isEmpty && drv p) = true → P = l ++ [nrm p]) := Lib.hid (fun h => by rw [← HP.out]; simp [h])
        clear HP
        cases f with
        | false =>
          have HPP := Lib.hid (plain.out rfl)
          clear plain dr
          go_enter Tryd.func36, Tryd.ntmps36
          go_wp2_with (first
            | (go_at_call 25; refine HE.out.mono ?_; rintro e w1 ⟨rfl, hB1⟩)
            | (go_at_call 12; refine (HD.out _).mono ?_; rintro e w2 ⟨rfl, hB2⟩; have hB12 := upB hB1 hB2)
            | (go_at_call 10; refine (HG.out _).mono ?_; rintro e w3 ⟨rfl, hB3⟩; have hB13 := upB hB12 hB3)
            | (at_builtin; go_loud (refine wpList_appS B w3 rfl _ _ rfl (.slice A n c) n (n + 1) l S rfl (own_below HO.out hB13) (Nat.le_trans HB0.out hB13.size) rfl rfl (by omega) ?_; intro A4 c4 w4 hO4 hB4 hG4))
            | fail)
          go_ret
          exact stepR_mk HPP.out (by rw [List.length_append, HN.out]; rfl) hO4 (step_grown hB13 hG4)
        | true =>
          by_cases h0 : n = 0
          · have hz0 : ((n : Int) == 0) = true := by rw [h0]; rfl
            have hzt : decide (n = 0) = true := decide_eq_true h0
            rw [HIE.out, hzt] at plain dr
            obtain ⟨v, hv⟩ : ∃ v, drv p = v := ⟨_, rfl⟩
            rw [hv] at HV plain dr
            have HVV := Lib.hid hv
            clear hzt hv h0
            cases v with
            | true =>
              have HPP := Lib.hid (dr.out rfl)
              clear plain dr
              go_enter Tryd.func36, Tryd.ntmps36
              go_wp2_with (first
                | (go_at_call 25; refine HE.out.mono ?_; rintro e w1 ⟨rfl, hB1⟩)
                | (go_at_call 12; refine (HD.out _).mono ?_; rintro e w2 ⟨rfl, hB2⟩; have hB12 := upB hB1 hB2)
                | (go_at_call 10; refine (HG.out _).mono ?_; rintro e w3 ⟨rfl, hB3⟩; have hB13 := upB hB12 hB3)
                | (go_at_call 14; refine (HV.out _ hB13).mono ?_; rintro e w5 ⟨rfl, rfl⟩)
                | (go_at_call 55; refine (HM.out HVV.out _ hB13).mono ?_; rintro e w6 ⟨rfl, hB6⟩; have hB16 := upB hB13 hB6)
                | (at_builtin; go_loud (refine wpList_appS B w6 rfl _ _ rfl (.slice A n c) n (n + 1) l (nrm p) rfl (own_below HO.out hB16) (Nat.le_trans HB0.out hB16.size) rfl rfl (by omega) ?_; intro A4 c4 w4 hO4 hB4 hG4))
                | fail)
              go_ret
              exact stepR_mk HPP.out (by rw [List.length_append, HN.out]; rfl) hO4 (step_grown hB16 hG4)
            | false =>
              have HPP := Lib.hid (plain.out rfl)
              clear plain dr
              go_enter Tryd.func36, Tryd.ntmps36
              go_wp2_with (first
                | (go_at_call 25; refine HE.out.mono ?_; rintro e w1 ⟨rfl, hB1⟩)
                | (go_at_call 12; refine (HD.out _).mono ?_; rintro e w2 ⟨rfl, hB2⟩; have hB12 := upB hB1 hB2)
                | (go_at_call 10; refine (HG.out _).mono ?_; rintro e w3 ⟨rfl, hB3⟩; have hB13 := upB hB12 hB3)
                | (go_at_call 14; refine (HV.out _ hB13).mono ?_; rintro e w5 ⟨rfl, rfl⟩)
                | (at_builtin; go_loud (refine wpList_appS B w3 rfl _ _ rfl (.slice A n c) n (n + 1) l S rfl (own_below HO.out hB13) (Nat.le_trans HB0.out hB13.size) rfl rfl (by omega) ?_; intro A4 c4 w4 hO4 hB4 hG4))
                | fail)
              go_ret
              exact stepR_mk HPP.out (by rw [List.length_append, HN.out]; rfl) hO4 (step_grown hB13 hG4)
          · have hz0 : ((n : Int) == 0) = false := by rw [beq_eq_false_iff_ne]; omega
            have hzt : decide (n = 0) = false := decide_eq_false h0
            have HPP := Lib.hid (plain.out (by rw [HIE.out, hzt]; rfl))
            clear plain dr hzt h0
            go_enter Tryd.func36, Tryd.ntmps36
            go_wp2_with (first
              | (go_at_call 25; refine HE.out.mono ?_; rintro e w1 ⟨rfl, hB1⟩)
              | (go_at_call 12; refine (HD.out _).mono ?_; rintro e w2 ⟨rfl, hB2⟩; have hB12 := upB hB1 hB2)
              | (go_at_call 10; refine (HG.out _).mono ?_; rintro e w3 ⟨rfl, hB3⟩; have hB13 := upB hB12 hB3)
              | (at_builtin; go_loud (refine wpList_appS B w3 rfl _ _ rfl (.slice A n c) n (n + 1) l S rfl (own_below HO.out hB13) (Nat.le_trans HB0.out hB13.size) rfl rfl (by omega) ?_; intro A4 c4 w4 hO4 hB4 hG4))
              | fail)
            go_ret
            exact stepR_mk HPP.out (by rw [List.length_append, HN.out]; rfl) hO4 (step_grown hB13 hG4)
  exact key _ rfl
set_option maxHeartbeats 1000000 in
theorem Shorten_any (s : ByteArray) (l : List ByteArray) (A : Option Addr) (n c : Nat) (w : World) (hn : l.length = n) (hc : n ≤ c) (hm : n ≤ 1000000) (hr : Row w w.heap.size A (sx l)) :
    Calls Tryd.prog 19 #[.string s, .slice A n c] w (MadeTexts (shr (fil s) l) w) := by
  have HS := Lib.hid (shorter_any s l A n c w hn hc hm hr)
  have HL := Lib.hid (shr_take (fil s) l)
  have hkl := shr_le (fil s) l
  obtain ⟨P, hP⟩ : ∃ P, shr (fil s) l = P := ⟨_, rfl⟩
  rw [hP] at HS HL hkl ⊢
  obtain ⟨k, hk⟩ : ∃ k, P.length = k := ⟨_, rfl⟩
  rw [hk] at HS HL hkl
  have hrk : Row w w.heap.size A (sx P) := by
    rw [HL.out]
    rcases hr with h | ⟨b, o, hA, hb, hcc⟩
    · have : l = [] := by simpa [sx] using h
      subst this
      exact .inl (by simp [sx])
    · refine .inr ⟨b, o, hA, hb, fun i hi => ?_⟩
      rw [List.length_map, List.length_take] at hi
      rw [hcc i (by rw [List.length_map]; omega), List.getElem?_map, List.getElem?_map, List.getElem?_take_of_lt (by omega)]
  have HC := Lib.hid (Clone_any P A k c w hk (by omega) hrk)
  clear hP hk hkl hrk hr hn
  go_enter Tryd.func19, Tryd.ntmps19
  go_wp2_with (first | (go_at_call 33; refine HS.out.mono ?_; rintro e w1 ⟨rfl, rfl⟩) | (go_at_call 32; refine HC.out.mono ?_; rintro e w2 ⟨A2, c2, rfl, hO2, hB2⟩) | fail)
  go_ret
  exact ⟨A2, c2, rfl, hO2, hB2⟩
end Go.Proofs.YtjkfppgekepbeaaDoor.Pth
