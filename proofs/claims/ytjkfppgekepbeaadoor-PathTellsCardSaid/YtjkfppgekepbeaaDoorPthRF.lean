/-
  fasciaref16.Walk.
-/
import Derived.Test.YtjkfppgekepbeaaDoorPthRE
namespace Go.Proofs.YtjkfppgekepbeaaDoor.Pth
set_option maxRecDepth 100000
open Go.RowKit Go.Shelf Utf Ut Hst

set_option maxRecDepth 100000 in
set_option maxHeartbeats 16000000 in
theorem RWalk_any (s : ByteArray) (l : List ByteArray) (A : Option Addr) (m c : Nat) (T : List Int) (A2 : Option Addr) (n c2 : Nat) (w : World) (hm : l.length = m) (hm1 : m ≤ 100000) (hn : T.length = n) (hc2 : n ≤ c2) (hn1 : n ≤ 20000) (hr : Row w w.heap.size A (sx l)) (hr2 : Row w w.heap.size A2 (cl .i32 T)) :
    Calls Tryd.prog 22 #[.string s, .slice A m c, .slice A2 n c2] w (MadeTexts (wlk (spc s) (fil s) l T) w) := by
  have hf := fil_beq s
  have HSP := Lib.hid (fun W => RSpecial_any s W)
  have HSH := Lib.hid (fun l A n c W h1 h2 h3 h4 => RShorten_any s l A n c W h1 h2 h3 h4)
  obtain ⟨fl, hfl⟩ : ∃ f, fil s = f := ⟨_, rfl⟩
  rw [hfl] at hf HSH ⊢
  obtain ⟨sp, hsp⟩ : ∃ f, spc s = f := ⟨_, rfl⟩
  rw [hsp] at HSP ⊢
  obtain ⟨G, hG⟩ : ∃ G, wlk sp fl l T = G := ⟨_, rfl⟩
  have HG := Lib.hid ((wlk_fwd sp fl l T).symm.trans hG)
  rw [hG]
  have HN := Lib.hid hn
  have HM := Lib.hid hm
  have HR := Lib.hid hr
  have HR2 := Lib.hid hr2
  unfold MadeTexts at HSH
  clear hfl hsp hG hn hm hr hr2
  go_enter Tryd.func22, Tryd.ntmps22
  go_wp2_with (first
    | (go_at_call 37; refine (HSP.out _).mono ?_; rintro e w1 ⟨rfl, rfl⟩)
    | (at_builtin; refine wpList_appR w.heap.size _ rfl _ _ rfl (.slice none 0 0) 0 m [] l rfl (World.ownsRow_nil _ _ _ _) (Nat.le_refl _) A m c rfl HM.out HR.out (by omega) (by omega) ?_; intro A1 c1 w1 hO1 hB1)
    | fail)
  go_loopg [7, 9, 10] (n + 1) (fun g s7 s9 s10 wr => ∃ (k q c' : Nat) (A' : Option Addr) (out : List ByteArray) (cur : List Int), s10 = .int .i64 (k : Int) ∧ s7 = .slice A' q c' ∧ s9 = .string (sg cur) ∧ n + 1 - k = g ∧ k ≤ n + 1 ∧ q ≤ m + k ∧ cur.length ≤ k ∧ Hid (out.length = q) ∧ Hid (wr.ownsRow w.heap.size 9 1 (.slice A' q c') q (sx out)) ∧ Hid (Below w.heap.size w wr) ∧ Hid (k ≤ n → fwd sp fl out cur (T.drop k) = G) ∧ Hid (k = n + 1 → out = G))
  case atStart => exact ⟨0, m, c1, A1, l, [], rfl, rfl, rfl, rfl, Nat.zero_le _, Nat.le_refl _, Nat.le_refl _, HM, Lib.hid hO1, Lib.hid hB1, Lib.hid (fun _ => HG.out), Lib.hid (fun h => by omega)⟩
  case round =>
    clear hO1 hB1 HG HR
    obtain ⟨k, q, c', A', out, cur, rfl, rfl, rfl, rfl, hk, hq, hcur, HL, HO, HB, HF, HZ⟩ := hrel
    have hle : w.heap.size ≤ wr.heap.size := HB.out.size
    by_cases hend : k = n + 1
    · subst hend
      have hz : ¬ ((n + 1 : Nat) : Int) ≤ (n : Int) := by omega
      have HE := Lib.hid (HZ.out rfl)
      have HOUT : Hid (MadeTexts G w (.returned (.slice A' q c')) wr) := Lib.hid (made_mk (by rw [← HE.out]; exact HL.out) (by rw [← HE.out]; exact HO.out) HB.out)
      clear HF HZ HE
      go_wp2_with fail
      go_ret
      exact HOUT.out
    have hkn : k ≤ n := by omega
    have hzk : (k : Int) ≤ (n : Int) := by omega
    have HF1 := Lib.hid (HF.out hkn)
    have hqc : q ≤ c' := by
      obtain ⟨A9, c9, hv, hc9, _⟩ := own_form HO.out
      cases hv
      exact hc9
    have hsz : (sg cur).size ≤ 240000 := by have := sg_size cur; omega
    clear HF HZ hend
    have HD := Lib.hid (fun W => RDouble_any (sg cur) (by omega) W)
    rw [dbA_sg] at HD
    have HS := Lib.hid (fun W => RSingle_any (sg cur) (by omega) W)
    rw [sgA_sg] at HS
    have hst : ∀ b, stp fl out cur b = if dbl (sg cur) = true then shr fl out ++ (if b then [ByteArray.empty] else []) else if sgl (sg cur) = true then out ++ (if b then [ByteArray.empty] else []) else if (fl && out.isEmpty && drv cur) = true then out ++ [nrm cur] else out ++ [sg cur] := fun b => rfl
    have hie : out.isEmpty = decide (q = 0) := by rw [← HL.out]; cases out <;> simp
    rw [hie] at hst
    have HDS := Lib.hid (fun h => drv_sg (p := cur) h)
    have HDZ := Lib.hid (fun h => drv_size (p := cur) h)
    have HNR := Lib.hid (fun h => nrm_sg (p := cur) h)
    have HSG := Lib.hid (sg_snoc cur)
    have hcv := fun W => conv_all (sg cur) W (by omega)
    have HCV := Lib.hid hcv
    have HRN := Lib.hid (fun A n c W (hn : (rn (sg cur)).length = n) hr => RDrive_any (rn (sg cur)) A n c W hn hr)
    have HSL := Lib.hid (shr_le fl out)
    clear hcv hie
    obtain ⟨S, hS⟩ : ∃ S, sg cur = S := ⟨_, rfl⟩
    rw [hS] at hsz HD HS hst HDS HDZ HNR HSG HCV HRN
    rw [hS]
    obtain ⟨d, hd⟩ : ∃ d, dbl S = d := ⟨_, rfl⟩
    rw [hd] at HD hst
    obtain ⟨u, hu⟩ : ∃ u, sgl S = u := ⟨_, rfl⟩
    rw [hu] at HS hst
    obtain ⟨v, hv⟩ : ∃ v, drv cur = v := ⟨_, rfl⟩
    rw [hv] at hst HDS HDZ HNR
    have HST := Lib.hid hst
    clear hst hS hd hu hv
    by_cases hlt : k < n
    · have hltz : ((k : Int) == (n : Int)) = false := by rw [beq_eq_false_iff_ne]; omega
      have hk' : k < T.length := by rw [HN.out]; exact hlt
      obtain ⟨r, hr⟩ : ∃ r, T[k]'hk' = r := ⟨_, rfl⟩
      have HDR : Hid (T.drop k = r :: T.drop (k + 1)) := Lib.hid (by rw [List.drop_eq_getElem_cons hk', hr])
      rw [HDR.out, fwd] at HF1
      obtain ⟨g0, o0, rfl, hb0, hcc⟩ := (HR2.out.below HB.out).at_ (by simp; omega)
      have c0 : wr.cell? ⟨g0, o0 + k, none⟩ = some (.int .i32 r) := by rw [hcc k (by simp; omega), cl_get _ _ _ hk', hr]
      cases hse : sep sp r with
      | false =>
        have HF2 := Lib.hid (show fwd sp fl out (cur ++ [r]) (T.drop (k + 1)) = G from by rw [← HF1.out, if_neg (by rw [hse]; decide)])
        have hcut : cutL T k (k + 1) = [r] := by
          unfold cutL
          rw [List.drop_eq_getElem_cons hk', show k + 1 - k = 1 by omega, List.take_succ_cons, List.take_zero, hr]
        have hrow := row_cut ((HR2.out.below HB.out).mono hle) (f := k) (i := k + 1) (c := c2) (by omega) (by rw [HN.out]; omega) (by rw [HN.out]; exact hc2)
        rw [hcut] at hrow
        have hsl := fun W => sl_lh (some ⟨g0, o0, none⟩) n c2 k (k + 1) (by omega) (by omega) W
        rw [show k + 1 - k = 1 by omega, show ((k + 1 : Nat) : Int) = (k : Int) + 1 from rfl] at hsl
        obtain ⟨A5, hA5⟩ : ∃ A5, subA (some ⟨g0, o0, none⟩) k c2 = A5 := ⟨_, rfl⟩
        rw [hA5] at hsl hrow
        have HEN := Lib.hid (RPct_any [r] A5 1 (c2 - k) wr rfl (by omega) (by decide) hrow)
        unfold EncP at HEN
        have hE12 : (strOfNums (pe [r])).size ≤ 12 := by
          have h1 := sg_len [r]
          have h2 := pe_len [r]
          have h3 : (strOfNums (pe [r])).size = (pe [r]).length := h1
          simp only [List.length_cons, List.length_nil] at h2
          omega
        obtain ⟨E, hE⟩ : ∃ E, strOfNums (pe [r]) = E := ⟨_, rfl⟩
        rw [hE] at hE12
        have hSE : (S ++ E).size = S.size + E.size := by simp
        have HSG2 := Lib.hid (HSG.out r)
        rw [hE] at HEN HSG2
        have hno := sep_no' hse
        have HLC : Hid ((cur ++ [r]).length ≤ k + 1) := Lib.hid (by rw [List.length_append]; simp; omega)
        clear HF1 hcut hrow hA5 hE hcc hk' hr hse HDR HD HS HST HDS HDZ HNR HSG HCV HRN HSL HSH
        obtain ⟨n1, hno⟩ := hno
        rcases hno with n2 | ⟨n2, rfl⟩
        · cases sp
          all_goals
            go_wp2_with (first | (go_at_call 38; refine HEN.out.mono ?_; rintro e w2 ⟨rfl, hB2⟩) | fail)
            go_roundg (n + 1 - (k + 1))
            case measure => omega
            case rel => exact ⟨k + 1, q, c', A', out, cur ++ [r], by go_num, rfl, by rw [HSG2.out], rfl, by omega, by omega, HLC.out, HL, Lib.hid (own_below HO.out hB2), Lib.hid (HB.out.trans (hB2.mono hle)), Lib.hid (fun _ => HF2.out), Lib.hid (fun h => by omega)⟩
        · go_wp2_with (first | (go_at_call 38; refine HEN.out.mono ?_; rintro e w2 ⟨rfl, hB2⟩) | fail)
          go_roundg (n + 1 - (k + 1))
          case measure => omega
          case rel => exact ⟨k + 1, q, c', A', out, cur ++ [r], by go_num, rfl, by rw [HSG2.out], rfl, by omega, by omega, HLC.out, HL, Lib.hid (own_below HO.out hB2), Lib.hid (HB.out.trans (hB2.mono hle)), Lib.hid (fun _ => HF2.out), Lib.hid (fun h => by omega)⟩
      | true =>
        have HF2 := Lib.hid (show fwd sp fl (stp fl out cur false) [] (T.drop (k + 1)) = G from by rw [← HF1.out, if_pos hse])
        have hye := sep_yes' hse
        clear HF1 hcc hk' hr hse HDR HSG
        have fin : ∀ (q2 c3 : Nat) (A3 : Option Addr) (P : List ByteArray) (W : World), stp fl out cur false = P → P.length = q2 → q2 ≤ m + (k + 1) → W.ownsRow w.heap.size 9 1 (.slice A3 q2 c3) q2 (sx P) → Below w.heap.size w W →
            ∃ (k' q c' : Nat) (A' : Option Addr) (out : List ByteArray) (cur : List Int), Value.int .i64 ((k : Int) + 1) = .int .i64 (k' : Int) ∧ Value.slice A3 q2 c3 = .slice A' q c' ∧ Value.string ⟨#[]⟩ = .string (sg cur) ∧ n + 1 - k' = n + 1 - (k + 1) ∧ k' ≤ n + 1 ∧ q ≤ m + k' ∧ cur.length ≤ k' ∧ Hid (out.length = q) ∧ Hid (W.ownsRow w.heap.size 9 1 (.slice A' q c') q (sx out)) ∧ Hid (Below w.heap.size w W) ∧ Hid (k' ≤ n → fwd sp fl out cur (T.drop k') = G) ∧ Hid (k' = n + 1 → out = G) := by
          intro q2 c3 A3 P W hP hPl hq2 hO3 hB3
          exact ⟨k + 1, q2, c3, A3, P, [], rfl, rfl, rfl, rfl, by omega, hq2, Nat.zero_le _, Lib.hid hPl, Lib.hid hO3, Lib.hid hB3, Lib.hid (fun _ => by rw [← hP]; exact HF2.out), Lib.hid (fun h => by omega)⟩
        have FIN := Lib.hid fin
        have HST2 := Lib.hid (HST.out false)
        clear fin HF2 HST
        rcases hye with y1 | ⟨y1, y2, rfl⟩
        all_goals
          have hbr : (d = true) ∨ (d = false ∧ u = true) ∨ (d = false ∧ u = false ∧ fl = false) ∨ (d = false ∧ u = false ∧ fl = true ∧ q ≠ 0) ∨ (d = false ∧ u = false ∧ fl = true ∧ q = 0 ∧ S.size ≠ 2) ∨ (d = false ∧ u = false ∧ fl = true ∧ q = 0 ∧ S.size = 2 ∧ v = false) ∨ (d = false ∧ u = false ∧ fl = true ∧ q = 0 ∧ S.size = 2 ∧ v = true) := by
            cases d <;> cases u <;> cases fl <;> cases v <;> simp <;> omega
          rcases hbr with rfl | ⟨rfl, rfl⟩ | ⟨rfl, rfl, rfl⟩ | ⟨rfl, rfl, rfl, h0⟩ | ⟨rfl, rfl, rfl, h0, h2⟩ | ⟨rfl, rfl, rfl, h0, h2, rfl⟩ | ⟨rfl, rfl, rfl, h0, h2, rfl⟩
          · have HP : Hid (stp fl out cur false = shr fl out) := Lib.hid (by rw [HST2.out]; simp)
            obtain ⟨P, hP⟩ : ∃ P, shr fl out = P := ⟨_, rfl⟩
            rw [hP] at HP HSL
            have HSH2 := Lib.hid (HSH.out out A' q c' wr HL.out hqc (by omega) ((Row.of_own HO.out)))
            rw [hP] at HSH2
            obtain ⟨p, hp⟩ : ∃ p, P.length = p := ⟨_, rfl⟩
            rw [hp] at HSH2 HSL
            have HPP := Lib.hid hp
            have hpq : p ≤ q := by have := HSL.out; have := HL.out; omega
            clear hP hp HSH
            go_wp2_with (first
              | (go_at_call 13; refine (HD.out _).mono ?_; rintro e w2 ⟨rfl, rfl⟩)
              | (go_at_call 11; refine (HS.out _).mono ?_; rintro e w3 ⟨rfl, rfl⟩)
              | (go_at_call 20; refine HSH2.out.mono ?_; rintro e w5 ⟨A5, c5, rfl, hO5, hB5⟩; have hO5w := own_base hO5 hle; have hB5w := HB.out.trans (hB5.mono hle))
              | fail)
            go_roundg (n + 1 - (k + 1))
            case measure => omega
            case rel => exact FIN.out p c5 A5 _ w5 HP.out HPP.out (by omega) hO5w hB5w
          · have HP : Hid (stp fl out cur false = out) := Lib.hid (by rw [HST2.out]; simp)
            go_wp2_with (first
              | (go_at_call 13; refine (HD.out _).mono ?_; rintro e w2 ⟨rfl, rfl⟩)
              | (go_at_call 11; refine (HS.out _).mono ?_; rintro e w3 ⟨rfl, rfl⟩)
              | fail)
            go_roundg (n + 1 - (k + 1))
            case measure => omega
            case rel => exact FIN.out q c' A' _ wr HP.out HL.out (by omega) HO.out HB.out
          · have HP : Hid (stp false out cur false = out ++ [S]) := Lib.hid (by rw [HST2.out]; simp)
            go_wp2_with (first
              | (go_at_call 13; refine (HD.out _).mono ?_; rintro e w2 ⟨rfl, rfl⟩)
              | (go_at_call 11; refine (HS.out _).mono ?_; rintro e w3 ⟨rfl, rfl⟩)
              | (at_builtin; go_loud (refine wpList_appS w.heap.size wr rfl _ _ rfl (.slice A' q c') q (q + 1) out S rfl HO.out hle rfl rfl (by omega) ?_; intro A4 c4 w4 hO4 hB4 hG4))
              | fail)
            go_roundg (n + 1 - (k + 1))
            case measure => omega
            case rel => exact FIN.out (q + 1) c4 A4 _ w4 HP.out (by rw [List.length_append, HL.out]; rfl) (by omega) hO4 (HB.out.trans hB4)
          · have HP : Hid (stp true out cur false = out ++ [S]) := Lib.hid (by rw [HST2.out, decide_eq_false h0]; simp)
            have hz0 : ((q : Int) == 0) = false := by rw [beq_eq_false_iff_ne]; omega
            go_wp2_with (first
              | (go_at_call 13; refine (HD.out _).mono ?_; rintro e w2 ⟨rfl, rfl⟩)
              | (go_at_call 11; refine (HS.out _).mono ?_; rintro e w3 ⟨rfl, rfl⟩)
              | (at_builtin; go_loud (refine wpList_appS w.heap.size wr rfl _ _ rfl (.slice A' q c') q (q + 1) out S rfl HO.out hle rfl rfl (by omega) ?_; intro A4 c4 w4 hO4 hB4 hG4))
              | fail)
            go_roundg (n + 1 - (k + 1))
            case measure => omega
            case rel => exact FIN.out (q + 1) c4 A4 _ w4 HP.out (by rw [List.length_append, HL.out]; rfl) (by omega) hO4 (HB.out.trans hB4)
          · subst h0
            have hvf : v = false := by
              rw [Bool.eq_false_iff]
              exact fun h => h2 (HDZ.out h)
            have HP : Hid (stp true out cur false = out ++ [S]) := Lib.hid (by rw [HST2.out, hvf]; simp)
            have hz2 : ((S.size : Int) == 2) = false := by rw [beq_eq_false_iff_ne]; omega
            go_wp2_with (first
              | (go_at_call 13; refine (HD.out _).mono ?_; rintro e w2 ⟨rfl, rfl⟩)
              | (go_at_call 11; refine (HS.out _).mono ?_; rintro e w3 ⟨rfl, rfl⟩)
              | (at_builtin; go_loud (refine wpList_appS w.heap.size wr rfl _ _ rfl (.slice A' 0 c') 0 1 out S rfl HO.out hle rfl rfl (by omega) ?_; intro A4 c4 w4 hO4 hB4 hG4))
              | fail)
            go_roundg (n + 1 - (k + 1))
            case measure => omega
            case rel => exact FIN.out 1 c4 A4 _ w4 HP.out (by rw [List.length_append, HL.out]; rfl) (by omega) hO4 (HB.out.trans hB4)
          · subst h0
            have HP : Hid (stp true out cur false = out ++ [S]) := Lib.hid (by rw [HST2.out]; rfl)
            have hz2 : ((S.size : Int) == 2) = true := by rw [h2]; rfl
            obtain ⟨W2, k2, hcv, hk2, hr2, hB2⟩ := HCV.out wr
            obtain ⟨z, hz⟩ : ∃ z, (rn S).length = z := ⟨_, rfl⟩
            have HRD := Lib.hid (HRN.out _ z k2 W2 hz hr2)
            rw [HDS.out h2] at HRD
            rw [hz] at hcv
            have HO2 := Lib.hid (own_below HO.out hB2)
            have HB2 := Lib.hid (HB.out.trans (hB2.mono hle))
            have hle2 := HB2.out.size
            clear hz hr2 hB2 hk2 h2
            go_wp2_with (first
              | (go_at_call 13; refine (HD.out _).mono ?_; rintro e w2 ⟨rfl, rfl⟩)
              | (go_at_call 11; refine (HS.out _).mono ?_; rintro e w3 ⟨rfl, rfl⟩)
              | (go_at_call 15; refine HRD.out.mono ?_; rintro e w6 ⟨rfl, rfl⟩)
              | (at_builtin; go_loud (refine wpList_appS w.heap.size W2 rfl _ _ rfl (.slice A' 0 c') 0 1 out S rfl HO2.out hle2 rfl rfl (by omega) ?_; intro A4 c4 w4 hO4 hB4 hG4))
              | fail)
            go_roundg (n + 1 - (k + 1))
            case measure => omega
            case rel => exact FIN.out 1 c4 A4 _ w4 HP.out (by rw [List.length_append, HL.out]; rfl) (by omega) hO4 (HB2.out.trans hB4)
          · subst h0
            have HP : Hid (stp true out cur false = out ++ [nrm cur]) := Lib.hid (by rw [HST2.out]; rfl)
            have hz2 : ((S.size : Int) == 2) = true := by rw [h2]; rfl
            obtain ⟨W2, k2, hcv, hk2, hr2, hB2⟩ := HCV.out wr
            obtain ⟨z, hz⟩ : ∃ z, (rn S).length = z := ⟨_, rfl⟩
            have HRD := Lib.hid (HRN.out _ z k2 W2 hz hr2)
            rw [HDS.out h2] at HRD
            rw [hz] at hcv
            have HO2 := Lib.hid (own_below HO.out hB2)
            have HB2 := Lib.hid (HB.out.trans (hB2.mono hle))
            have hle2 := HB2.out.size
            have HN2 := Lib.hid (HNR.out rfl)
            have h1s : 1 ≤ S.size := by omega
            have hx1 : (S.extract 0 1).size = 1 := by rw [ByteArray.size_extract]; omega
            clear hz hr2 hB2 hk2 h2
            go_wp2_with (first
              | (go_at_call 13; refine (HD.out _).mono ?_; rintro e w2 ⟨rfl, rfl⟩)
              | (go_at_call 11; refine (HS.out _).mono ?_; rintro e w3 ⟨rfl, rfl⟩)
              | (go_at_call 15; refine HRD.out.mono ?_; rintro e w6 ⟨rfl, rfl⟩)
              | (at_builtin; go_loud (refine wpList_appS w.heap.size W2 rfl _ _ rfl (.slice A' 0 c') 0 1 out _ rfl HO2.out hle2 rfl rfl (by omega) ?_; intro A4 c4 w4 hO4 hB4 hG4))
              | fail)
            go_roundg (n + 1 - (k + 1))
            case measure => omega
            case rel => exact FIN.out 1 c4 A4 _ w4 HP.out (by rw [List.length_append, HL.out]; rfl) (by omega) (by rw [← HN2.out]; exact hO4) (HB2.out.trans hB4)
    · obtain rfl : k = n := by omega
      have hltz : ((k : Int) == (k : Int)) = true := by simp
      have HF2 := Lib.hid (show stp fl out cur true = G from by rw [← HF1.out, List.drop_of_length_le (by rw [HN.out]; exact Nat.le_refl _)]; rfl)
      clear HF1 HSG
      have fin : ∀ (q2 c3 : Nat) (A3 : Option Addr) (P : List ByteArray) (W : World), stp fl out cur true = P → P.length = q2 → q2 ≤ m + (k + 1) → W.ownsRow w.heap.size 9 1 (.slice A3 q2 c3) q2 (sx P) → Below w.heap.size w W →
          ∃ (k' q c' : Nat) (A' : Option Addr) (out : List ByteArray) (cur : List Int), Value.int .i64 ((k : Int) + 1) = .int .i64 (k' : Int) ∧ Value.slice A3 q2 c3 = .slice A' q c' ∧ Value.string ⟨#[]⟩ = .string (sg cur) ∧ k + 1 - k' = k + 1 - (k + 1) ∧ k' ≤ k + 1 ∧ q ≤ m + k' ∧ cur.length ≤ k' ∧ Hid (out.length = q) ∧ Hid (W.ownsRow w.heap.size 9 1 (.slice A' q c') q (sx out)) ∧ Hid (Below w.heap.size w W) ∧ Hid (k' ≤ k → fwd sp fl out cur (T.drop k') = G) ∧ Hid (k' = k + 1 → out = G) := by
        intro q2 c3 A3 P W hP hPl hq2 hO3 hB3
        exact ⟨k + 1, q2, c3, A3, P, [], rfl, rfl, rfl, rfl, by omega, hq2, Nat.zero_le _, Lib.hid hPl, Lib.hid hO3, Lib.hid hB3, Lib.hid (fun h => by omega), Lib.hid (fun _ => by rw [← hP]; exact HF2.out)⟩
      have FIN := Lib.hid fin
      have HST2 := Lib.hid (HST.out true)
      clear fin HF2 HST
      have hbr : (d = true) ∨ (d = false ∧ u = true) ∨ (d = false ∧ u = false ∧ fl = false) ∨ (d = false ∧ u = false ∧ fl = true ∧ q ≠ 0) ∨ (d = false ∧ u = false ∧ fl = true ∧ q = 0 ∧ S.size ≠ 2) ∨ (d = false ∧ u = false ∧ fl = true ∧ q = 0 ∧ S.size = 2 ∧ v = false) ∨ (d = false ∧ u = false ∧ fl = true ∧ q = 0 ∧ S.size = 2 ∧ v = true) := by
        cases d <;> cases u <;> cases fl <;> cases v <;> simp <;> omega
      rcases hbr with rfl | ⟨rfl, rfl⟩ | ⟨rfl, rfl, rfl⟩ | ⟨rfl, rfl, rfl, h0⟩ | ⟨rfl, rfl, rfl, h0, h2⟩ | ⟨rfl, rfl, rfl, h0, h2, rfl⟩ | ⟨rfl, rfl, rfl, h0, h2, rfl⟩
      · have HP : Hid (stp fl out cur true = shr fl out ++ [ByteArray.empty]) := Lib.hid (by rw [HST2.out]; simp)
        obtain ⟨P, hP⟩ : ∃ P, shr fl out = P := ⟨_, rfl⟩
        rw [hP] at HP HSL
        have HSH2 := Lib.hid (HSH.out out A' q c' wr HL.out hqc (by omega) ((Row.of_own HO.out)))
        rw [hP] at HSH2
        obtain ⟨p, hp⟩ : ∃ p, P.length = p := ⟨_, rfl⟩
        rw [hp] at HSH2 HSL
        have HPP := Lib.hid hp
        have hpq : p ≤ q := by have := HSL.out; have := HL.out; omega
        clear hP hp HSH
        go_wp2_with (first
          | (go_at_call 13; refine (HD.out _).mono ?_; rintro e w2 ⟨rfl, rfl⟩)
          | (go_at_call 11; refine (HS.out _).mono ?_; rintro e w3 ⟨rfl, rfl⟩)
          | (go_at_call 20; refine HSH2.out.mono ?_; rintro e w5 ⟨A5, c5, rfl, hO5, hB5⟩; have hO5w := own_base hO5 hle; have hB5w := HB.out.trans (hB5.mono hle))
          | (at_builtin; go_loud (refine wpList_appS w.heap.size w5 rfl _ _ rfl (.slice A5 p c5) p (p + 1) P ByteArray.empty rfl hO5w hB5w.size rfl rfl (by omega) ?_; intro A4 c4 w4 hO4 hB4 hG4))
          | fail)
        go_roundg (k + 1 - (k + 1))
        case measure => omega
        case rel => exact FIN.out (p + 1) c4 A4 _ w4 HP.out (by rw [List.length_append, HPP.out]; rfl) (by omega) hO4 (hB5w.trans hB4)
      · have HP : Hid (stp fl out cur true = out ++ [ByteArray.empty]) := Lib.hid (by rw [HST2.out]; simp)
        go_wp2_with (first
          | (go_at_call 13; refine (HD.out _).mono ?_; rintro e w2 ⟨rfl, rfl⟩)
          | (go_at_call 11; refine (HS.out _).mono ?_; rintro e w3 ⟨rfl, rfl⟩)
          | (at_builtin; go_loud (refine wpList_appS w.heap.size wr rfl _ _ rfl (.slice A' q c') q (q + 1) out ByteArray.empty rfl HO.out hle rfl rfl (by omega) ?_; intro A4 c4 w4 hO4 hB4 hG4))
          | fail)
        go_roundg (k + 1 - (k + 1))
        case measure => omega
        case rel => exact FIN.out (q + 1) c4 A4 _ w4 HP.out (by rw [List.length_append, HL.out]; rfl) (by omega) hO4 (HB.out.trans hB4)
      · have HP : Hid (stp false out cur true = out ++ [S]) := Lib.hid (by rw [HST2.out]; simp)
        go_wp2_with (first
          | (go_at_call 13; refine (HD.out _).mono ?_; rintro e w2 ⟨rfl, rfl⟩)
          | (go_at_call 11; refine (HS.out _).mono ?_; rintro e w3 ⟨rfl, rfl⟩)
          | (at_builtin; go_loud (refine wpList_appS w.heap.size wr rfl _ _ rfl (.slice A' q c') q (q + 1) out S rfl HO.out hle rfl rfl (by omega) ?_; intro A4 c4 w4 hO4 hB4 hG4))
          | fail)
        go_roundg (k + 1 - (k + 1))
        case measure => omega
        case rel => exact FIN.out (q + 1) c4 A4 _ w4 HP.out (by rw [List.length_append, HL.out]; rfl) (by omega) hO4 (HB.out.trans hB4)
      · have HP : Hid (stp true out cur true = out ++ [S]) := Lib.hid (by rw [HST2.out, decide_eq_false h0]; simp)
        have hz0 : ((q : Int) == 0) = false := by rw [beq_eq_false_iff_ne]; omega
        go_wp2_with (first
          | (go_at_call 13; refine (HD.out _).mono ?_; rintro e w2 ⟨rfl, rfl⟩)
          | (go_at_call 11; refine (HS.out _).mono ?_; rintro e w3 ⟨rfl, rfl⟩)
          | (at_builtin; go_loud (refine wpList_appS w.heap.size wr rfl _ _ rfl (.slice A' q c') q (q + 1) out S rfl HO.out hle rfl rfl (by omega) ?_; intro A4 c4 w4 hO4 hB4 hG4))
          | fail)
        go_roundg (k + 1 - (k + 1))
        case measure => omega
        case rel => exact FIN.out (q + 1) c4 A4 _ w4 HP.out (by rw [List.length_append, HL.out]; rfl) (by omega) hO4 (HB.out.trans hB4)
      · subst h0
        have hvf : v = false := by
          rw [Bool.eq_false_iff]
          exact fun h => h2 (HDZ.out h)
        have HP : Hid (stp true out cur true = out ++ [S]) := Lib.hid (by rw [HST2.out, hvf]; simp)
        have hz2 : ((S.size : Int) == 2) = false := by rw [beq_eq_false_iff_ne]; omega
        go_wp2_with (first
          | (go_at_call 13; refine (HD.out _).mono ?_; rintro e w2 ⟨rfl, rfl⟩)
          | (go_at_call 11; refine (HS.out _).mono ?_; rintro e w3 ⟨rfl, rfl⟩)
          | (at_builtin; go_loud (refine wpList_appS w.heap.size wr rfl _ _ rfl (.slice A' 0 c') 0 1 out S rfl HO.out hle rfl rfl (by omega) ?_; intro A4 c4 w4 hO4 hB4 hG4))
          | fail)
        go_roundg (k + 1 - (k + 1))
        case measure => omega
        case rel => exact FIN.out 1 c4 A4 _ w4 HP.out (by rw [List.length_append, HL.out]; rfl) (by omega) hO4 (HB.out.trans hB4)
      · subst h0
        have HP : Hid (stp true out cur true = out ++ [S]) := Lib.hid (by rw [HST2.out]; rfl)
        have hz2 : ((S.size : Int) == 2) = true := by rw [h2]; rfl
        obtain ⟨W2, k2, hcv, hk2, hr2, hB2⟩ := HCV.out wr
        obtain ⟨z, hz⟩ : ∃ z, (rn S).length = z := ⟨_, rfl⟩
        have HRD := Lib.hid (HRN.out _ z k2 W2 hz hr2)
        rw [HDS.out h2] at HRD
        rw [hz] at hcv
        have HO2 := Lib.hid (own_below HO.out hB2)
        have HB2 := Lib.hid (HB.out.trans (hB2.mono hle))
        have hle2 := HB2.out.size
        clear hz hr2 hB2 hk2 h2
        go_wp2_with (first
          | (go_at_call 13; refine (HD.out _).mono ?_; rintro e w2 ⟨rfl, rfl⟩)
          | (go_at_call 11; refine (HS.out _).mono ?_; rintro e w3 ⟨rfl, rfl⟩)
          | (go_at_call 15; refine HRD.out.mono ?_; rintro e w6 ⟨rfl, rfl⟩)
          | (at_builtin; go_loud (refine wpList_appS w.heap.size W2 rfl _ _ rfl (.slice A' 0 c') 0 1 out S rfl HO2.out hle2 rfl rfl (by omega) ?_; intro A4 c4 w4 hO4 hB4 hG4))
          | fail)
        go_roundg (k + 1 - (k + 1))
        case measure => omega
        case rel => exact FIN.out 1 c4 A4 _ w4 HP.out (by rw [List.length_append, HL.out]; rfl) (by omega) hO4 (HB2.out.trans hB4)
      · subst h0
        have HP : Hid (stp true out cur true = out ++ [nrm cur]) := Lib.hid (by rw [HST2.out]; rfl)
        have hz2 : ((S.size : Int) == 2) = true := by rw [h2]; rfl
        obtain ⟨W2, k2, hcv, hk2, hr2, hB2⟩ := HCV.out wr
        obtain ⟨z, hz⟩ : ∃ z, (rn S).length = z := ⟨_, rfl⟩
        have HRD := Lib.hid (HRN.out _ z k2 W2 hz hr2)
        rw [HDS.out h2] at HRD
        rw [hz] at hcv
        have HO2 := Lib.hid (own_below HO.out hB2)
        have HB2 := Lib.hid (HB.out.trans (hB2.mono hle))
        have hle2 := HB2.out.size
        have HN2 := Lib.hid (HNR.out rfl)
        have h1s : 1 ≤ S.size := by omega
        have hx1 : (S.extract 0 1).size = 1 := by rw [ByteArray.size_extract]; omega
        clear hz hr2 hB2 hk2 h2
        go_wp2_with (first
          | (go_at_call 13; refine (HD.out _).mono ?_; rintro e w2 ⟨rfl, rfl⟩)
          | (go_at_call 11; refine (HS.out _).mono ?_; rintro e w3 ⟨rfl, rfl⟩)
          | (go_at_call 15; refine HRD.out.mono ?_; rintro e w6 ⟨rfl, rfl⟩)
          | (at_builtin; go_loud (refine wpList_appS w.heap.size W2 rfl _ _ rfl (.slice A' 0 c') 0 1 out _ rfl HO2.out hle2 rfl rfl (by omega) ?_; intro A4 c4 w4 hO4 hB4 hG4))
          | fail)
        go_roundg (k + 1 - (k + 1))
        case measure => omega
        case rel => exact FIN.out 1 c4 A4 _ w4 HP.out (by rw [List.length_append, HL.out]; rfl) (by omega) (by rw [← HN2.out]; exact hO4) (HB2.out.trans hB4)
end Go.Proofs.YtjkfppgekepbeaaDoor.Pth
