/-
  SixWrong: a text that is read is of digits, colons and points alone, with '::' once at most and ':::' never; a piece more or less, of five bytes, or with another byte, a colon more: none of them is read: the law returns true.
  Conditions: those of the card (the variables that the row lists are laid as the program's text lays them).
-/
import Derived.Test.YtkbaafmkgjffoaaDoorSixU
import Derived.Deep.RegionHeld3
import Derived.Test.YtkbaafmkgjffoaaDoorFrame
import Derived.Test.YtkbaafmkgjffoaaDoorTie
import Derived.Test.YtkbaafmkgjffoaaDoorCards
import Derived.Test.YtkbaafmkgjffoaaDoorSixZ
import Derived.ProofKit
import Derived.Lay
import Derived.Stop.Joined
import Derived.SevenTiedAt
namespace Go.Proofs.YtkbaafmkgjffoaaDoor.sixWrong
open Go.ChangeShapes Go.WideShapes Go.ChangeAt Go.RowKit Sx
open Go.ChangeMaps (open_string shut_string)

set_option maxRecDepth 100000 in
set_option maxHeartbeats 8000000 in
theorem walk (x : List Nat) (a1 a2 : Int) (s : ByteArray) (w : World) (hx8 : x.length = 8) (hx16 : ∀ m ∈ x, m < 65536) (g1 : 0 ≤ a1) (_g1' : a1 ≤ 255) (g2 : 0 ≤ a2) (g2' : a2 ≤ 255) (hs : s.size ≤ maxLen) (hE : Env w) :
    Calls Tryd.prog 7 #[av x, .int .u8 a1, .int .u8 a2, .string s] w (fun e w' => e = .returned (.bool true) ∧ Below w.heap.size w w') := by
  have H8 := Lib.hid hx8
  have H16 := Lib.hid hx16
  have hxa := Hx.new w x
  have hB0 := upA w (.cells (cu x).toArray 23)
  obtain ⟨w1, hw1⟩ : ∃ w1, w.alloc (.cells (cu x).toArray 23) = w1 := ⟨_, rfl⟩
  rw [hw1] at hxa hB0
  have HE := Lib.hid (fun W (hB : Below w1.heap.size w1 W) => (hE.go hB0).go hB)
  have HB0 := Lib.hid hB0
  have HXA := Lib.hid hxa
  have HAW := Lib.hid (fun W h => awake_any W h)
  have HFU := Lib.hid (fun W h => full_row x [] hx8 hx16 (by simp) none 0 0 W rfl (by decide) .empty h)
  rw [fl_hx hx8] at HFU
  have HHL : Hid ((hx x).length = 8) := Lib.hid (by rw [hx, List.length_map, hx8])
  have HJN := Lib.hid (hx_jn_len hx16 (by omega))
  obtain ⟨a, ha⟩ : ∃ a : Nat, a1 % 8 = (a : Int) := ⟨(a1 % 8).toNat, by omega⟩
  have ha' : a1.tmod 8 = (a : Int) := by rw [Int.tmod_eq_emod_of_nonneg g1]; exact ha
  have ha7 : a < 8 := by omega
  have hs63 : ¬ (9223372036854775807 < s.size) := by unfold maxLen at hs; omega
  have hsz : (s.size : Int) = (s.size : Int) := rfl
  obtain ⟨z, hz⟩ : ∃ z : Nat, s.size = z := ⟨_, rfl⟩
  have HZ := Lib.hid hz
  by_cases h100 : 100 < z
  · have hz1 : (100 : Int) < (s.size : Int) := by omega
    clear hB0 hE hx8 hx16 hsz
    go_enter Tryd.func7, Tryd.ntmps7
    go_upto_region 1 with fail
    clear hw1
    go_wp2_with (first | (go_at_call 8; refine (HAW.out _ (HE.out _ (Below.refl _ _))).mono ?_; rintro e w5 ⟨rfl, hB5⟩) | fail)
    go_ret
    exact ⟨rfl, HB0.out.trans (hB5.mono HB0.out.size)⟩
  · have hz1 : ¬ (100 : Int) < (s.size : Int) := by omega
    have HP := Lib.hid (Parse_any s (by omega) w1 (HE.out _ (Below.refl _ _)))
    have HTR := Lib.hid (fun W => Trim_any s (by omega) W)
    have HCO := Lib.hid (fun W h => Count_any s ⟨#[58, 58]⟩ (by decide) (by omega) W h)
    have HCN := Lib.hid (fun W h => Contains_any s ⟨#[58, 58, 58]⟩ (by decide) (by omega) W h)
    have HL : Hid (∀ y, prs (dl s) = some y → y.length = 8 ∧ Lib.trimS (dl s) (hexc ++ [46]) = [] ∧ Lib.countB s ⟨#[58, 58]⟩ ≤ 1 ∧ (cutg (dl ⟨#[58, 58, 58]⟩) (dl s)).isSome = false) := Lib.hid (fun y h => ⟨(prs_some h).1, trim_all (prs_mem h), prs_count h, prs_three h⟩)
    obtain ⟨oo, ho⟩ : ∃ oo, prs (dl s) = oo := ⟨_, rfl⟩
    rw [ho] at HP HL
    clear hB0 hE hx8 hx16 hsz ho
    go_enter Tryd.func7, Tryd.ntmps7
    go_upto_region 1 with fail
    clear hw1
    have hE0 : Hid (∀ W, Below w1.heap.size w1 W → Env W) := HE
    go_upto_region 3 with fail
    go_wp2_with fail
    refine HP.out.mono ?_
    rintro e w2 ⟨h1, hB2⟩
    have HB2 := Lib.hid hB2
    clear hB2 HP
    have hx3 : Hx (w2.alloc (.cells #[.int .u16 0, .int .u16 0, .int .u16 0, .int .u16 0, .int .u16 0, .int .u16 0, .int .u16 0, .int .u16 0] 23)) w2.heap.size z8 := Hx.new w2 z8
    cases oo with
    | none =>
      obtain rfl := h1
      clear HTR HCO HCN HL
      go_upto_region 4 with (first
        | (refine store8x rfl _ _ rfl _ z8 z8 rfl rfl hx3 rfl rfl ?_; intro w3 hy4 hb3; clear hy4 hx3)
        | fail)
      have HB3 := Lib.hid (HB2.out.trans (((upA w2 _).trans hb3).mono HB2.out.size))
      clear hb3
      go_upto_region 6 with fail
      have HBQ := HB3
      have hx4 := HXA.out.go HBQ.out
      go_upto_region 7 with (first | (refine load8 _ rfl _ rfl x hx4 H8.out rfl ?_) | (go_at_call 17; refine (HFU.out _ (HE.out _ HBQ.out)).mono ?_; rintro e w7 ⟨b, o, c', rfl, HC8, HT, hB7⟩) | fail)
      have HB7 := Lib.hid (HBQ.out.trans (hB7.mono HBQ.out.size))
      have HJA := Lib.hid (HT.out.join HHL.out (by decide) HC8.out (by have := HJN.out; omega))
      have hW40 : (bs (jn (hx x))).size ≤ 40 := by rw [bs_size]; exact HJN.out
      unfold Texts at HJA
      obtain ⟨sW, hsW⟩ : ∃ s, bs (jn (hx x)) = s := ⟨_, rfl⟩
      rw [hsW] at HJA hW40
      have HSW := Lib.hid hsW
      clear hB7 hx4 hsW
      go_upto_region 9 with (first | (go_at_call 19; refine HJA.out.mono ?_; rintro e w8 ⟨rfl, hB8⟩) | fail)
      have HT8 := Lib.hid (HT.out.go hB8)
      have HB8 := Lib.hid (HB7.out.trans (hB8.mono HB7.out.size))
      clear hB8 HJA
      have HRW : Hid (Row (w8.alloc (.cells #[] 9)) (w8.alloc (.cells #[] 9)).heap.size (some ⟨b, o, none⟩) (sc ((hx x).map bs))) := Lib.hid (HT8.out.go (upA w8 _)).row
      go_upto_region 10 with (first | (at_builtin; refine wpList_appR w8.heap.size _ rfl (.tmp 51) (.tmp 52) rfl _ 0 8 [] ((hx x).map bs) rfl (own_empty w8 w8.heap.size 9 (Nat.le_refl _)) (upA w8 _).size (some ⟨b, o, none⟩) 8 c' rfl (by rw [List.length_map]; exact HHL.out) HRW.out rfl (by omega) ?_; intro A9 c9 w9 hO9 hB9) | fail)
      obtain ⟨g, rfl, hg1, hg2, hTg, hfg⟩ := own_all (ps := hx x) hO9 HHL.out
      have hb8 : b < w8.heap.size := HT8.out.1
      have hB9x := Lib.hid hB9
      have hB9s : Hid (w8.heap.size ≤ w9.heap.size) := Lib.hid ((upA w8 _).trans hB9).size
      have HT9 := Lib.hid ((HT8.out.go (upA w8 _)).gob hb8 hB9 hB9.size)
      have HTg := Lib.hid hTg
      have HB9 := Lib.hid (HB8.out.trans (((upA w8 _).trans hB9).mono HB8.out.size))
      have hgb : ¬ g = b := by omega
      have hg9 : g < w9.heap.size := hTg.1
      have hF9 := hfg a
      obtain ⟨p, hp⟩ : ∃ p, (hx x)[a]? = some p := ⟨_, List.getElem?_eq_getElem (by rw [HHL.out]; exact ha7)⟩
      have hpm : p ∈ hx x := List.mem_of_getElem? hp
      have hps : ((hx x).map bs)[a]? = some (bs p) := by rw [List.getElem?_map, hp]; rfl
      have hca := HT9.out.2 a _ hps
      have hcg := HTg.out.2 a _ hps
      rw [Nat.zero_add] at hcg
      have hp4 : p.length ≤ 4 := hx_len H16.out p hpm
      have hp1 : 1 ≤ p.length := List.length_pos_iff.2 (hx_gd H16.out p hpm).1
      have hpz : (bs p).size = p.length := bs_size _
      obtain ⟨r, hr4⟩ : ∃ r : Nat, (4 : Int) - ((bs p).size : Int) = (r : Int) := ⟨4 - p.length, by omega⟩
      have hr3 : r ≤ 3 := by omega
      have HRP := Lib.hid (fun W => Repeat_any r (by omega) W)
      have HP5 : Hid (dl (⟨#[48]⟩ ++ bs (List.replicate r 48) ++ bs p) = 48 :: (List.replicate r 48 ++ p)) := Lib.hid (by
        rw [app_dl, app_dl]
        simp [dl, bs])
      have HPM : Hid (p ∈ hx x ∧ p.length + r = 4) := Lib.hid ⟨hpm, by omega⟩
      unfold Texts at HRP
      have hrs : (bs (List.replicate r 48)).size = r := by rw [bs_size, List.length_replicate]
      generalize bs (List.replicate r 48) = sR at HRP HP5 hrs
      obtain ⟨sK, hsK⟩ : ∃ s, bs p = s := ⟨_, rfl⟩
      rw [hsK] at hca hcg hpz hr4 HP5
      have hk1 : ¬ (9223372036854775807 < 1 + r) := by omega
      have hk2 : ¬ (9223372036854775807 < 1 + r + sK.size) := by omega
      have hai : (a : Int) < 8 := by omega
      have hait : (a : Int).toNat = a := by omega
      have hri : IntKind.i64.wrap (r : Int) = (r : Int) := IntWalk.i64_in _ (by omega)
      have hpi : (p.length : Int) = (sK.size : Int) := by omega
      have HSK : Hid (∀ w', Below w9.heap.size w9 w' → w'.cell? ⟨b, o + a, none⟩ = some (.string sK)) := Lib.hid (fun w' hB => (hB.cell (p := ⟨b, o + a, none⟩) HT9.out.1).trans hca)
      have HGC : Hid (∀ w', Below w9.heap.size w9 w' → w'.cell? ⟨g, a, none⟩ = some (.string sK) ∧ w'.frozen? ⟨g, a, none⟩ = false) := Lib.hid (fun w' hB => ⟨(hB.cell (p := ⟨g, a, none⟩) hg9).trans hcg, (frozen_go hB hg9).trans hF9⟩)
      have hd9 : Below w9.heap.size w9 w9.drew := (Below.refl _ _).drew
      clear hO9 hB9 hTg hfg hF9 hca hcg hps hpm hp hp1 hp4 hpz hsK hpi
      go_region_held3 (fun w' => w'.cell? ⟨b, o + a, none⟩ = some (.string sK)) (first | exact HSK.out _ (by assumption) | exact (World.cell?_setCell_far _ _ _ _ hgb).trans (HSK.out _ (by assumption))) (first
        | (go_at_call 23; (with_reducible refine (HRP.out _).mono ?_); rintro e' w10 ⟨rfl, hb10⟩; have hB10 := hd9.trans (hb10.mono hd9.size); obtain ⟨hcg, hfg⟩ := HGC.out _ hB10)
        | fail)
      all_goals
        obtain ⟨f5, hf5⟩ : ∃ f, (48 : UInt8) :: (List.replicate r 48 ++ p) = f := ⟨_, rfl⟩
        have HF5 : Hid ((f5 ≠ [] ∧ (58 : UInt8) ∉ f5) ∧ pce f5 = none ∧ four f5 = none ∧ f5.length = 5) := Lib.hid (by
          have hpm := HPM.out.1
          have hl := HPM.out.2
          have h58 := (hx_gd H16.out p hpm).2
          have h46 := hx_no46 H16.out p hpm
          have h5 : f5.length = 5 := by rw [← hf5]; simp; omega
          refine ⟨⟨by rw [← hf5]; simp, by rw [← hf5]; simp [h58]⟩, pce_five (by omega), four_no (by rw [← hf5]; simp [h46]), h5⟩)
        have hs5 : ⟨#[48]⟩ ++ sR ++ sK = bs f5 := bytes_ext.2 (by
          rw [bs_data, ← hf5]
          exact HP5.out)
        rw [hs5]
        have HT11 := Lib.hid (((HT9.out.go (hd9.trans (hb10.mono hd9.size))).far (k := a) (v := .string (bs f5)) hgb))
        have HG11 := Lib.hid ((HTg.out.go (hd9.trans (hb10.mono hd9.size))).set a f5 (by rw [HHL.out]; exact ha7))
        have HB11 := Lib.hid (HB8.out.trans ((below_set (k := a) (v := .string (bs f5)) (((upA w8 _).trans hB9x.out).trans (hB10.mono hB9s.out)) hg1).mono HB8.out.size))
        obtain ⟨w11, hw11⟩ : ∃ w', w10.setCell ⟨g, a, none⟩ (.string (bs f5)) = w' := ⟨_, rfl⟩
        rw [hw11] at HT11 HG11 HB11 ⊢
        have TA : Hid (∀ W, Below w11.heap.size w11 W → Row W W.heap.size (some ⟨b, o, none⟩) (sc (((hx x).take a).map bs))) := Lib.hid (fun W hB => ((HT11.out.go hB).take a).row)
        have TB : Hid (∀ W, Below w11.heap.size w11 W → Row W W.heap.size (some ⟨b, offc o (a + 1) c', none⟩) (sc (((hx x).drop (a + 1)).map bs))) := Lib.hid (fun W hB => ((HT11.out.go hB).dropc (a + 1) c' (by rw [HHL.out]; exact HC8.out)).row)
        have hsl1 := fun W => ts_hN b o 8 a c' (by omega) HC8.out W
        have hsl2 := fun W => ts_l1 b o a c' ha7 W
        have hww : IntKind.i64.wrap ((a : Int) + 1) = (a : Int) + 1 := IntWalk.i64_in _ (by omega)
        have HLa : Hid ((((hx x).take a).map bs).length = a) := Lib.hid (by rw [List.length_map, List.length_take, HHL.out]; omega)
        have HLb : Hid ((((hx x).drop (a + 1)).map bs).length = 8 - (a + 1)) := Lib.hid (by rw [List.length_map, List.length_drop, HHL.out])
        obtain ⟨m2, hm2⟩ : ∃ m, 8 - (a + 1) = m := ⟨_, rfl⟩
        obtain ⟨o2, ho2⟩ : ∃ m, offc o (a + 1) c' = m := ⟨_, rfl⟩
        obtain ⟨c2, hc2⟩ : ∃ m, c' - (a + 1) = m := ⟨_, rfl⟩
        rw [hm2] at HLb hsl2
        rw [ho2] at TB hsl2
        rw [hc2] at hsl2
        clear ho2 hc2 hw11 hs5 hf5 HSK HGC hd9 hb10 hB10 hcg hfg hr4 hr3 hrs hk1 hk2 hri HRP HP5
        go_upto_region 11 with fail
        go_region_held3 (fun _ => True) (trivial) (first
          | (refine step_appT w11 _ rfl (.tmp 70) (.tmp 73) rfl _ 0 [] rfl ?_ ?_ (some ⟨b, o, none⟩) a c' (((hx x).take a).map bs) rfl HLa.out ?_ a (by omega) (by omega) ?_;
              (exact own_drew (own_empty w11 w11.heap.size 9 (Nat.le_refl _)));
              (exact (upA w11 _).drew);
              (exact TA.out _ (upA w11 _).drew); intro A12 c12 w12 hown2 hg2 hb2)
          | (refine step_appT w11 _ rfl (.tmp 74) (.tmp 78) rfl _ a ([] ++ ((hx x).take a).map bs) rfl ?_ ?_ (some ⟨b, o2, none⟩) m2 c2 (((hx x).drop (a + 1)).map bs) rfl HLb.out ?_ 7 (by omega) (by omega) ?_;
              (exact hown2); (exact hb2); (exact TB.out _ hb2); intro A13 c13 w13 hown3 hg3 hb3)
          | fail)
        all_goals
          have HLL7 : Hid (((hx x).take a ++ (hx x).drop (a + 1)).length = 7) := Lib.hid (by rw [List.length_append, List.length_take, List.length_drop, HHL.out]; omega)
          obtain ⟨b3, o3, rfl, h73, hTL⟩ := TRow.of_own (ps := (hx x).take a ++ (hx x).drop (a + 1)) (by rw [List.map_append]; exact hown3) HLL7.out (by decide)
          have HTL13 := Lib.hid hTL
          have H73 := Lib.hid h73
          have HT13 := Lib.hid (HT11.out.go hb3)
          have HG13 := Lib.hid (HG11.out.go hb3)
          have HB13 := Lib.hid (HB11.out.trans (hb3.mono HB11.out.size))
          have HRW2 : Hid (Row (w13.alloc (.cells #[] 9)) (w13.alloc (.cells #[] 9)).heap.size (some ⟨b, o, none⟩) (sc ((hx x).map bs))) := Lib.hid (HT13.out.go (upA w13 _)).row
          clear hown2 hown3 hg2 hg3 hb2 hb3 hTL TA TB HLa HLb hsl1 hsl2 hww h73 hm2
          go_upto_region 13 with (first | (at_builtin; refine wpList_appR w13.heap.size _ rfl (.tmp 80) (.tmp 81) rfl _ 0 8 [] ((hx x).map bs) rfl (own_empty w13 w13.heap.size 9 (Nat.le_refl _)) (upA w13 _).size (some ⟨b, o, none⟩) 8 c' rfl (by rw [List.length_map]; exact HHL.out) HRW2.out rfl (by omega) ?_; intro A14 c14 w14 hO14 hB14) | fail)
          obtain ⟨gq, rfl, hg21, hg22, hTg2, hfg2⟩ := own_all (ps := hx x) hO14 HHL.out
          have hup := (upA w13 (.cells #[] 9)).trans hB14
          have HTL14 := Lib.hid (HTL13.out.go hup)
          have HG14 := Lib.hid (HG13.out.go hup)
          have HB14 := Lib.hid (HB13.out.trans (hup.mono HB13.out.size))
          have HUP := Lib.hid hup
          obtain ⟨c, hc⟩ : ∃ c : Nat, a2 = (c : Int) := ⟨a2.toNat, by omega⟩
          subst hc
          have hcv : (convert 34 9 (.slice (some ⟨w14.heap.size, 0, none⟩) 1 1)).run Tryd.prog (w14.alloc (.cells #[.int .u8 (c : Int)] 5)) = .ok (.string (bs [UInt8.ofNat c])) (w14.alloc (.cells #[.int .u8 (c : Int)] 5)) := by
            rw [conv_byte, str_bs]; rfl
          have HTg15 := Lib.hid (hTg2.go (upA w14 (.cells #[.int .u8 (c : Int)] 5)))
          obtain ⟨p2, hp2⟩ : ∃ p, ((hx x).map bs)[a]? = some p := ⟨_, List.getElem?_eq_getElem (by rw [List.length_map, HHL.out]; exact ha7)⟩
          have hcg2 := HTg15.out.2 a _ hp2
          rw [Nat.zero_add] at hcg2
          have hfg15 : (w14.alloc (.cells #[.int .u8 (c : Int)] 5)).frozen? ⟨gq, a, none⟩ = false := (frozen_go (upA w14 _) hTg2.1).trans (hfg2 a)
          clear hO14 hB14 hTg2 hfg2 hup hp2
          go_upto_region 14 with fail
          have HC1 : Hid (UInt8.ofNat c = UInt8.ofNat c) := Lib.hid rfl
          have hne1 : ¬ gq = g := by have := HG13.out.1; omega
          have hne2 : ¬ gq = b3 := by have := HTL13.out.1; omega
          have HOD := Lib.hid (HTg15.out.set a [UInt8.ofNat c] (by rw [HHL.out]; exact ha7))
          have HG16 := Lib.hid ((HG14.out.go (upA w14 (.cells #[.int .u8 (c : Int)] 5))).far (k := a) (v := .string (bs [UInt8.ofNat c])) hne1)
          have HTL16 := Lib.hid ((HTL14.out.go (upA w14 (.cells #[.int .u8 (c : Int)] 5))).far (k := a) (v := .string (bs [UInt8.ofNat c])) hne2)
          have HB16 := Lib.hid (HB13.out.trans ((below_set (k := a) (v := .string (bs [UInt8.ofNat c])) (HUP.out.trans ((upA w14 (.cells #[.int .u8 (c : Int)] 5)).mono HUP.out.size)) hg21).mono HB13.out.size))
          obtain ⟨w16, hw16⟩ : ∃ w', (w14.alloc (.cells #[.int .u8 (c : Int)] 5)).setCell ⟨gq, a, none⟩ (.string (bs [UInt8.ofNat c])) = w' := ⟨_, rfl⟩
          rw [hw16] at HOD HG16 HTL16 HB16 ⊢
          clear hw16 hcv hcg2 hfg15 HTg15
          have HJ5 := Lib.hid (fun W (hB : Below w16.heap.size w16 W) => ((HG16.out.go hB).join (n := 8) (c := c9) (by rw [List.length_set, HHL.out]) (by decide) hg2 (by have := set_len15 H8.out H16.out a (f := f5) (by have := HF5.out.2.2.2; omega); omega)).mono fun e w' h => (⟨h.1, upB hB h.2⟩ : Texts (jn ((hx x).set a f5)) w16 e w'))
          have HJL := Lib.hid (fun W (hB : Below w16.heap.size w16 W) => ((HTL16.out.go hB).join (n := 7) (c := c13) HLL7.out (by decide) H73.out (by have := less_len H8.out H16.out a ha7; omega)).mono fun e w' h => (⟨h.1, upB hB h.2⟩ : Texts (jn ((hx x).take a ++ (hx x).drop (a + 1))) w16 e w'))
          have HJO := Lib.hid (fun W (hB : Below w16.heap.size w16 W) => ((HOD.out.go hB).join (n := 8) (c := c14) (by rw [List.length_set, HHL.out]) (by decide) hg22 (by have := set_len15 H8.out H16.out a (f := [UInt8.ofNat c]) (by simp); omega)).mono fun e w' h => (⟨h.1, upB hB h.2⟩ : Texts (jn ((hx x).set a [UInt8.ofNat c])) w16 e w'))
          obtain ⟨s5, hs5⟩ : ∃ s, bs (jn ((hx x).set a f5)) = s := ⟨_, rfl⟩
          obtain ⟨sL, hsL⟩ : ∃ s, bs (jn ((hx x).take a ++ (hx x).drop (a + 1))) = s := ⟨_, rfl⟩
          have HN9 := Lib.hid (nine H8.out H16.out a ha7 HF5.out.1 HF5.out.2.1 HF5.out.2.2.1 HF5.out.2.2.2 HSW.out hs5 hsL)
          have HOC : Hid (Lib.indexByte hexc (UInt8.ofNat c) < 0 → prs (jn ((hx x).set a [UInt8.ofNat c])) = none) := Lib.hid (fun h => by
            obtain ⟨o1, o2, o3⟩ := odd_ix ⟨c, by omega⟩ h
            exact set_bad H8.out H16.out a ha7 ⟨by simp, o3⟩ o1 o2)
          have HOL : Hid ((bs (jn ((hx x).set a [UInt8.ofNat c]))).size ≤ 128) := Lib.hid (by rw [bs_size]; exact set_len15 H8.out H16.out a (f := [UInt8.ofNat c]) (by simp))
          have HPO := Lib.hid (show dl (bs (jn ((hx x).set a [UInt8.ofNat c]))) = jn ((hx x).set a [UInt8.ofNat c]) from bs_data _)
          unfold Texts at HJO
          have HJ5' : Hid (∀ W, Below w16.heap.size w16 W → Calls Tryd.prog 19 #[.slice (some ⟨g, 0, none⟩) 8 c9, .string ⟨#[58]⟩] W (fun e w' => e = .returned (.string s5) ∧ Below w16.heap.size w16 w')) := by rw [← hs5]; exact HJ5
          have HJL' : Hid (∀ W, Below w16.heap.size w16 W → Calls Tryd.prog 19 #[.slice (some ⟨b3, o3, none⟩) 7 c13, .string ⟨#[58]⟩] W (fun e w' => e = .returned (.string sL) ∧ Below w16.heap.size w16 w')) := by rw [← hsL]; exact HJL
          obtain ⟨sO, hsO⟩ : ∃ s, bs (jn ((hx x).set a [UInt8.ofNat c])) = s := ⟨_, rfl⟩
          rw [hsO] at HJO HOL HPO
          have hk1 : ¬ (9223372036854775807 < sW.size + 1) := by omega
          have hk2 : ¬ (9223372036854775807 < 1 + sW.size) := by omega
          have hk3 : ¬ (9223372036854775807 < sW.size + 2) := by omega
          have hk4 : ¬ (9223372036854775807 < 2 + sW.size) := by omega
          have hr16 : Below w16.heap.size w16 w16 := Below.refl _ _
          have HIX := Lib.hid (fun W => IndexByte_any ⟨#[48, 49, 50, 51, 52, 53, 54, 55, 56, 57, 97, 98, 99, 100, 101, 102, 65, 66, 67, 68, 69, 70, 58]⟩ c W)
          clear HJ5 HJL hs5 hsL hsO HT9 HTg HT11 HG11 HT13 HG13 HTL13 HTL14 HG14 HUP HRW HRW2 HC8 HT HT8 HTL16 HG16 HOD hne1 hne2 hg21 hg22 hg1 hg2 hgb hg9 hb8 H73 HLL7 HPM HC1
          go_upto_region 15 with (first
            | (go_at_call 19; (with_reducible refine (HJ5'.out _ hr16).mono ?_); rintro e w17 ⟨rfl, hB17⟩)
            | (go_at_call 19; (with_reducible refine (HJL'.out _ hB17).mono ?_); rintro e w18 ⟨rfl, hB18⟩)
            | fail)
          have HC9 : Hid (∀ i, i < 9 → ∃ t, (w18.alloc (.cells #[.string (sW ++ ⟨#[58]⟩), .string (⟨#[58]⟩ ++ sW), .string (sW ++ ⟨#[58, 49]⟩), .string (sW ++ ⟨#[58, 58]⟩), .string (⟨#[58, 58]⟩ ++ sW), .string s5, .string sL, .string ⟨#[58, 58, 58]⟩, .string ⟨#[49, 58, 58, 58, 50]⟩] 9)).cell? ⟨w18.heap.size, i, none⟩ = some (.string t) ∧ t.size ≤ 1000000 ∧ prs (dl t) = none) := Lib.hid (fun i hi => by
            have h9 := HN9.out
            have hd : i = 0 ∨ i = 1 ∨ i = 2 ∨ i = 3 ∨ i = 4 ∨ i = 5 ∨ i = 6 ∨ i = 7 ∨ i = 8 := by omega
            rcases hd with rfl | rfl | rfl | rfl | rfl | rfl | rfl | rfl | rfl
            all_goals exact ⟨_, by rw [World.cell?_alloc_new]; rfl, h9 _ (by simp)⟩)
          have HO19 := Lib.hid (hB18.alloc hB18.size (.cells #[.string (sW ++ ⟨#[58]⟩), .string (⟨#[58]⟩ ++ sW), .string (sW ++ ⟨#[58, 49]⟩), .string (sW ++ ⟨#[58, 58]⟩), .string (⟨#[58, 58]⟩ ++ sW), .string s5, .string sL, .string ⟨#[58, 58, 58]⟩, .string ⟨#[49, 58, 58, 58, 50]⟩] 9))
          have hl19 : w18.heap.size < (w18.alloc (.cells #[.string (sW ++ ⟨#[58]⟩), .string (⟨#[58]⟩ ++ sW), .string (sW ++ ⟨#[58, 49]⟩), .string (sW ++ ⟨#[58, 58]⟩), .string (⟨#[58, 58]⟩ ++ sW), .string s5, .string sL, .string ⟨#[58, 58, 58]⟩, .string ⟨#[49, 58, 58, 58, 50]⟩] 9)).heap.size := by rw [World.size_alloc]; omega
          obtain ⟨w19, hw19⟩ : ∃ w', w18.alloc (.cells #[.string (sW ++ ⟨#[58]⟩), .string (⟨#[58]⟩ ++ sW), .string (sW ++ ⟨#[58, 49]⟩), .string (sW ++ ⟨#[58, 58]⟩), .string (⟨#[58, 58]⟩ ++ sW), .string s5, .string sL, .string ⟨#[58, 58, 58]⟩, .string ⟨#[49, 58, 58, 58, 50]⟩] 9) = w' := ⟨_, rfl⟩
          rw [hw19] at HC9 HO19 hl19 ⊢
          have HB19 := Lib.hid (HB16.out.trans (HO19.out.mono HB16.out.size))
          clear hw19 hB17 hB18 hr16 HJ5' HJL' HN9 hk1 hk2 hk3 hk4
          go_loopg [105] 9 (fun gg s105 wr => ∃ i : Nat, s105 = .int .i64 (i : Int) ∧ 9 - i = gg ∧ i ≤ 9 ∧ Hid (Below w19.heap.size w19 wr))
          case atStart => exact ⟨0, rfl, rfl, Nat.zero_le _, Lib.hid (Below.refl _ _)⟩
          case round =>
            obtain ⟨i, rfl, rfl, hi, HBr⟩ := hrel
            have HBx := Lib.hid (HB19.out.trans (HBr.out.mono HB19.out.size))
            by_cases hlt : i < 9
            · have hltz : (i : Int) < 9 := by omega
              have hii : (0 : Int) ≤ (i : Int) ∧ (i : Int) < 9 := by omega
              have hit : (i : Int).toNat = i := by omega
              obtain ⟨t, ht1, ht2, ht3⟩ := HC9.out i hlt
              have hct : wr.cell? ⟨w18.heap.size, i, none⟩ = some (.string t) := (HBr.out.cell (p := ⟨w18.heap.size, i, none⟩) hl19).trans ht1
              have HNO := Lib.hid (fun W h => none_yes t ht2 W h ht3)
              clear ht1 ht2 ht3
              go_wp2_with (first | (go_at_call 24; refine (HNO.out _ (HE.out _ HBx.out)).mono ?_; rintro e w20 ⟨rfl, hB20⟩) | fail)
              go_roundg (9 - (i + 1))
              case measure => omega
              case rel => exact ⟨i + 1, by go_num, rfl, by omega, Lib.hid (HBr.out.trans (hB20.mono HBr.out.size))⟩
            · obtain rfl : i = 9 := by omega
              have hBo : Below w16.heap.size w16 wr := HO19.out.trans (HBr.out.mono HO19.out.size)
              have hnl : ¬ ((9 : Nat) : Int) < (9 : Int) := by omega
              obtain ⟨ix, hix⟩ : ∃ ix, Lib.indexByte (dl ⟨#[48, 49, 50, 51, 52, 53, 54, 55, 56, 57, 97, 98, 99, 100, 101, 102, 65, 66, 67, 68, 69, 70, 58]⟩) (UInt8.ofNat c) = ix := ⟨_, rfl⟩
              have hoc : ix < 0 → prs (dl sO) = none := fun h => by
                rw [HPO.out]
                exact HOC.out (by rw [← hix] at h; exact h)
              rw [hix] at HIX
              clear hix hlt hi HC9 HBr
              by_cases hx0 : ix < 0
              · have hx1 : decide (ix < 0) = true := decide_eq_true hx0
                have HNO := Lib.hid (fun W h => none_yes sO (by have := HOL.out; omega) W h (hoc hx0))
                clear hoc
                go_upto_region 20 with fail
                go_upto_region 22 with (first
                  | (go_at_call 25; refine (HIX.out _).mono ?_; rintro e w21 ⟨rfl, rfl⟩)
                  | (go_at_call 19; (with_reducible refine (HJO.out _ (by assumption)).mono ?_); rintro e w22 ⟨rfl, hB22⟩; have HB22 := Lib.hid (HB16.out.trans (hB22.mono HB16.out.size)))
                  | (go_at_call 24; (with_reducible refine (HNO.out _ (HE.out _ HB22.out)).mono ?_); rintro e w23 ⟨rfl, hB23⟩; have HB23 := Lib.hid (HB22.out.trans (hB23.mono HB22.out.size)))
                  | fail)
                go_wp2_with (first | (go_at_call 8; refine (HAW.out _ (HE.out _ HB23.out)).mono ?_; rintro e w24 ⟨rfl, hB24⟩) | fail)
                go_ret
                exact ⟨rfl, HB0.out.trans ((HB23.out.trans (hB24.mono HB23.out.size)).mono HB0.out.size)⟩
              · have hx1 : decide (ix < 0) = false := decide_eq_false hx0
                clear hoc
                go_upto_region 20 with fail
                go_upto_region 22 with (first
                  | (go_at_call 25; refine (HIX.out _).mono ?_; rintro e w21 ⟨rfl, rfl⟩)
                  | fail)
                go_wp2_with (first | (go_at_call 8; refine (HAW.out _ (HE.out _ HBx.out)).mono ?_; rintro e w24 ⟨rfl, hB24⟩) | fail)
                go_ret
                exact ⟨rfl, HB0.out.trans ((HBx.out.trans (hB24.mono HBx.out.size)).mono HB0.out.size)⟩
    | some y =>
      obtain rfl := h1
      obtain ⟨hy8, hy1, hy2, hy3⟩ := HL.out y rfl
      have HY8 := Lib.hid hy8
      rw [hy1] at HTR
      unfold Texts at HTR
      obtain ⟨sT, hsT⟩ : ∃ sT, bs [] = sT := ⟨_, rfl⟩
      have hqT : (sT.toList == (⟨#[]⟩ : ByteArray).toList) = true := by rw [beq_iff_eq, ← hsT]; rfl
      have hqL : sT.toList = [] := by rw [← hsT, ByteArray.toList_eq]; rfl
      rw [hsT] at HTR
      obtain ⟨cn, hcn⟩ : ∃ cn, Lib.countB s ⟨#[58, 58]⟩ = cn := ⟨_, rfl⟩
      rw [hcn] at HCO hy2
      rw [hy3] at HCN
      have hc1 : ¬ (1 : Int) < (cn : Int) := by omega
      have hc2 : ¬ 1 < cn := by omega
      have hc3 : decide ((1 : Int) < (cn : Int)) = false := decide_eq_false hc1
      clear hy8 hy1 hy2 hy3 hcn hsT HL
      go_upto_region 4 with (first
        | (refine store8x rfl _ _ rfl _ z8 y rfl rfl hx3 rfl HY8.out ?_; intro w3 hy4 hb3; clear hy4 hx3)
        | fail)
      have HB3 := Lib.hid (HB2.out.trans (((upA w2 _).trans hb3).mono HB2.out.size)) -- MARK1
      clear hb3
      go_upto_region 6 with (first
        | (go_at_call 21; refine (HTR.out _).mono ?_; rintro e w4 ⟨rfl, hb4⟩; have HB4 := Lib.hid (HB3.out.trans (hb4.mono HB3.out.size)); clear hb4)
        | (go_at_call 20; refine (HCO.out _ (HE.out _ HB4.out)).mono ?_; rintro e w5 ⟨rfl, rfl⟩)
        | (go_at_call 22; refine (HCN.out _ (HE.out _ (by first | exact HB4.out | assumption))).mono ?_; rintro e w6 ⟨rfl, rfl⟩)
        | fail)
      have HBQ := HB4
      have hx4 := HXA.out.go HBQ.out
      go_upto_region 7 with (first | (refine load8 _ rfl _ rfl x hx4 H8.out rfl ?_) | (go_at_call 17; refine (HFU.out _ (HE.out _ HBQ.out)).mono ?_; rintro e w7 ⟨b, o, c', rfl, HC8, HT, hB7⟩) | fail)
      have HB7 := Lib.hid (HBQ.out.trans (hB7.mono HBQ.out.size))
      have HJA := Lib.hid (HT.out.join HHL.out (by decide) HC8.out (by have := HJN.out; omega))
      have hW40 : (bs (jn (hx x))).size ≤ 40 := by rw [bs_size]; exact HJN.out
      unfold Texts at HJA
      obtain ⟨sW, hsW⟩ : ∃ s, bs (jn (hx x)) = s := ⟨_, rfl⟩
      rw [hsW] at HJA hW40
      have HSW := Lib.hid hsW
      clear hB7 hx4 hsW
      go_upto_region 9 with (first | (go_at_call 19; refine HJA.out.mono ?_; rintro e w8 ⟨rfl, hB8⟩) | fail)
      have HT8 := Lib.hid (HT.out.go hB8)
      have HB8 := Lib.hid (HB7.out.trans (hB8.mono HB7.out.size))
      clear hB8 HJA
      have HRW : Hid (Row (w8.alloc (.cells #[] 9)) (w8.alloc (.cells #[] 9)).heap.size (some ⟨b, o, none⟩) (sc ((hx x).map bs))) := Lib.hid (HT8.out.go (upA w8 _)).row
      go_upto_region 10 with (first | (at_builtin; refine wpList_appR w8.heap.size _ rfl (.tmp 51) (.tmp 52) rfl _ 0 8 [] ((hx x).map bs) rfl (own_empty w8 w8.heap.size 9 (Nat.le_refl _)) (upA w8 _).size (some ⟨b, o, none⟩) 8 c' rfl (by rw [List.length_map]; exact HHL.out) HRW.out rfl (by omega) ?_; intro A9 c9 w9 hO9 hB9) | fail)
      obtain ⟨g, rfl, hg1, hg2, hTg, hfg⟩ := own_all (ps := hx x) hO9 HHL.out
      have hb8 : b < w8.heap.size := HT8.out.1
      have hB9x := Lib.hid hB9
      have hB9s : Hid (w8.heap.size ≤ w9.heap.size) := Lib.hid ((upA w8 _).trans hB9).size
      have HT9 := Lib.hid ((HT8.out.go (upA w8 _)).gob hb8 hB9 hB9.size)
      have HTg := Lib.hid hTg
      have HB9 := Lib.hid (HB8.out.trans (((upA w8 _).trans hB9).mono HB8.out.size))
      have hgb : ¬ g = b := by omega
      have hg9 : g < w9.heap.size := hTg.1
      have hF9 := hfg a
      obtain ⟨p, hp⟩ : ∃ p, (hx x)[a]? = some p := ⟨_, List.getElem?_eq_getElem (by rw [HHL.out]; exact ha7)⟩
      have hpm : p ∈ hx x := List.mem_of_getElem? hp
      have hps : ((hx x).map bs)[a]? = some (bs p) := by rw [List.getElem?_map, hp]; rfl
      have hca := HT9.out.2 a _ hps
      have hcg := HTg.out.2 a _ hps
      rw [Nat.zero_add] at hcg
      have hp4 : p.length ≤ 4 := hx_len H16.out p hpm
      have hp1 : 1 ≤ p.length := List.length_pos_iff.2 (hx_gd H16.out p hpm).1
      have hpz : (bs p).size = p.length := bs_size _
      obtain ⟨r, hr4⟩ : ∃ r : Nat, (4 : Int) - ((bs p).size : Int) = (r : Int) := ⟨4 - p.length, by omega⟩
      have hr3 : r ≤ 3 := by omega
      have HRP := Lib.hid (fun W => Repeat_any r (by omega) W)
      have HP5 : Hid (dl (⟨#[48]⟩ ++ bs (List.replicate r 48) ++ bs p) = 48 :: (List.replicate r 48 ++ p)) := Lib.hid (by
        rw [app_dl, app_dl]
        simp [dl, bs])
      have HPM : Hid (p ∈ hx x ∧ p.length + r = 4) := Lib.hid ⟨hpm, by omega⟩
      unfold Texts at HRP
      have hrs : (bs (List.replicate r 48)).size = r := by rw [bs_size, List.length_replicate]
      generalize bs (List.replicate r 48) = sR at HRP HP5 hrs
      obtain ⟨sK, hsK⟩ : ∃ s, bs p = s := ⟨_, rfl⟩
      rw [hsK] at hca hcg hpz hr4 HP5
      have hk1 : ¬ (9223372036854775807 < 1 + r) := by omega
      have hk2 : ¬ (9223372036854775807 < 1 + r + sK.size) := by omega
      have hai : (a : Int) < 8 := by omega
      have hait : (a : Int).toNat = a := by omega
      have hri : IntKind.i64.wrap (r : Int) = (r : Int) := IntWalk.i64_in _ (by omega)
      have hpi : (p.length : Int) = (sK.size : Int) := by omega
      have HSK : Hid (∀ w', Below w9.heap.size w9 w' → w'.cell? ⟨b, o + a, none⟩ = some (.string sK)) := Lib.hid (fun w' hB => (hB.cell (p := ⟨b, o + a, none⟩) HT9.out.1).trans hca)
      have HGC : Hid (∀ w', Below w9.heap.size w9 w' → w'.cell? ⟨g, a, none⟩ = some (.string sK) ∧ w'.frozen? ⟨g, a, none⟩ = false) := Lib.hid (fun w' hB => ⟨(hB.cell (p := ⟨g, a, none⟩) hg9).trans hcg, (frozen_go hB hg9).trans hF9⟩)
      have hd9 : Below w9.heap.size w9 w9.drew := (Below.refl _ _).drew
      clear hO9 hB9 hTg hfg hF9 hca hcg hps hpm hp hp1 hp4 hpz hsK hpi
      go_region_held3 (fun w' => w'.cell? ⟨b, o + a, none⟩ = some (.string sK)) (first | exact HSK.out _ (by assumption) | exact (World.cell?_setCell_far _ _ _ _ hgb).trans (HSK.out _ (by assumption))) (first
        | (go_at_call 23; (with_reducible refine (HRP.out _).mono ?_); rintro e' w10 ⟨rfl, hb10⟩; have hB10 := hd9.trans (hb10.mono hd9.size); obtain ⟨hcg, hfg⟩ := HGC.out _ hB10)
        | fail)
      all_goals
        obtain ⟨f5, hf5⟩ : ∃ f, (48 : UInt8) :: (List.replicate r 48 ++ p) = f := ⟨_, rfl⟩
        have HF5 : Hid ((f5 ≠ [] ∧ (58 : UInt8) ∉ f5) ∧ pce f5 = none ∧ four f5 = none ∧ f5.length = 5) := Lib.hid (by
          have hpm := HPM.out.1
          have hl := HPM.out.2
          have h58 := (hx_gd H16.out p hpm).2
          have h46 := hx_no46 H16.out p hpm
          have h5 : f5.length = 5 := by rw [← hf5]; simp; omega
          refine ⟨⟨by rw [← hf5]; simp, by rw [← hf5]; simp [h58]⟩, pce_five (by omega), four_no (by rw [← hf5]; simp [h46]), h5⟩)
        have hs5 : ⟨#[48]⟩ ++ sR ++ sK = bs f5 := bytes_ext.2 (by
          rw [bs_data, ← hf5]
          exact HP5.out)
        rw [hs5]
        have HT11 := Lib.hid (((HT9.out.go (hd9.trans (hb10.mono hd9.size))).far (k := a) (v := .string (bs f5)) hgb))
        have HG11 := Lib.hid ((HTg.out.go (hd9.trans (hb10.mono hd9.size))).set a f5 (by rw [HHL.out]; exact ha7))
        have HB11 := Lib.hid (HB8.out.trans ((below_set (k := a) (v := .string (bs f5)) (((upA w8 _).trans hB9x.out).trans (hB10.mono hB9s.out)) hg1).mono HB8.out.size))
        obtain ⟨w11, hw11⟩ : ∃ w', w10.setCell ⟨g, a, none⟩ (.string (bs f5)) = w' := ⟨_, rfl⟩
        rw [hw11] at HT11 HG11 HB11 ⊢
        have TA : Hid (∀ W, Below w11.heap.size w11 W → Row W W.heap.size (some ⟨b, o, none⟩) (sc (((hx x).take a).map bs))) := Lib.hid (fun W hB => ((HT11.out.go hB).take a).row)
        have TB : Hid (∀ W, Below w11.heap.size w11 W → Row W W.heap.size (some ⟨b, offc o (a + 1) c', none⟩) (sc (((hx x).drop (a + 1)).map bs))) := Lib.hid (fun W hB => ((HT11.out.go hB).dropc (a + 1) c' (by rw [HHL.out]; exact HC8.out)).row)
        have hsl1 := fun W => ts_hN b o 8 a c' (by omega) HC8.out W
        have hsl2 := fun W => ts_l1 b o a c' ha7 W
        have hww : IntKind.i64.wrap ((a : Int) + 1) = (a : Int) + 1 := IntWalk.i64_in _ (by omega)
        have HLa : Hid ((((hx x).take a).map bs).length = a) := Lib.hid (by rw [List.length_map, List.length_take, HHL.out]; omega)
        have HLb : Hid ((((hx x).drop (a + 1)).map bs).length = 8 - (a + 1)) := Lib.hid (by rw [List.length_map, List.length_drop, HHL.out])
        obtain ⟨m2, hm2⟩ : ∃ m, 8 - (a + 1) = m := ⟨_, rfl⟩
        obtain ⟨o2, ho2⟩ : ∃ m, offc o (a + 1) c' = m := ⟨_, rfl⟩
        obtain ⟨c2, hc2⟩ : ∃ m, c' - (a + 1) = m := ⟨_, rfl⟩
        rw [hm2] at HLb hsl2
        rw [ho2] at TB hsl2
        rw [hc2] at hsl2
        clear ho2 hc2 hw11 hs5 hf5 HSK HGC hd9 hb10 hB10 hcg hfg hr4 hr3 hrs hk1 hk2 hri HRP HP5
        go_upto_region 11 with fail
        go_region_held3 (fun _ => True) (trivial) (first
          | (refine step_appT w11 _ rfl (.tmp 70) (.tmp 73) rfl _ 0 [] rfl ?_ ?_ (some ⟨b, o, none⟩) a c' (((hx x).take a).map bs) rfl HLa.out ?_ a (by omega) (by omega) ?_;
              (exact own_drew (own_empty w11 w11.heap.size 9 (Nat.le_refl _)));
              (exact (upA w11 _).drew);
              (exact TA.out _ (upA w11 _).drew); intro A12 c12 w12 hown2 hg2 hb2)
          | (refine step_appT w11 _ rfl (.tmp 74) (.tmp 78) rfl _ a ([] ++ ((hx x).take a).map bs) rfl ?_ ?_ (some ⟨b, o2, none⟩) m2 c2 (((hx x).drop (a + 1)).map bs) rfl HLb.out ?_ 7 (by omega) (by omega) ?_;
              (exact hown2); (exact hb2); (exact TB.out _ hb2); intro A13 c13 w13 hown3 hg3 hb3)
          | fail)
        all_goals
          have HLL7 : Hid (((hx x).take a ++ (hx x).drop (a + 1)).length = 7) := Lib.hid (by rw [List.length_append, List.length_take, List.length_drop, HHL.out]; omega)
          obtain ⟨b3, o3, rfl, h73, hTL⟩ := TRow.of_own (ps := (hx x).take a ++ (hx x).drop (a + 1)) (by rw [List.map_append]; exact hown3) HLL7.out (by decide)
          have HTL13 := Lib.hid hTL
          have H73 := Lib.hid h73
          have HT13 := Lib.hid (HT11.out.go hb3)
          have HG13 := Lib.hid (HG11.out.go hb3)
          have HB13 := Lib.hid (HB11.out.trans (hb3.mono HB11.out.size))
          have HRW2 : Hid (Row (w13.alloc (.cells #[] 9)) (w13.alloc (.cells #[] 9)).heap.size (some ⟨b, o, none⟩) (sc ((hx x).map bs))) := Lib.hid (HT13.out.go (upA w13 _)).row
          clear hown2 hown3 hg2 hg3 hb2 hb3 hTL TA TB HLa HLb hsl1 hsl2 hww h73 hm2
          go_upto_region 13 with (first | (at_builtin; refine wpList_appR w13.heap.size _ rfl (.tmp 80) (.tmp 81) rfl _ 0 8 [] ((hx x).map bs) rfl (own_empty w13 w13.heap.size 9 (Nat.le_refl _)) (upA w13 _).size (some ⟨b, o, none⟩) 8 c' rfl (by rw [List.length_map]; exact HHL.out) HRW2.out rfl (by omega) ?_; intro A14 c14 w14 hO14 hB14) | fail)
          obtain ⟨gq, rfl, hg21, hg22, hTg2, hfg2⟩ := own_all (ps := hx x) hO14 HHL.out
          have hup := (upA w13 (.cells #[] 9)).trans hB14
          have HTL14 := Lib.hid (HTL13.out.go hup)
          have HG14 := Lib.hid (HG13.out.go hup)
          have HB14 := Lib.hid (HB13.out.trans (hup.mono HB13.out.size))
          have HUP := Lib.hid hup
          obtain ⟨c, hc⟩ : ∃ c : Nat, a2 = (c : Int) := ⟨a2.toNat, by omega⟩
          subst hc
          have hcv : (convert 34 9 (.slice (some ⟨w14.heap.size, 0, none⟩) 1 1)).run Tryd.prog (w14.alloc (.cells #[.int .u8 (c : Int)] 5)) = .ok (.string (bs [UInt8.ofNat c])) (w14.alloc (.cells #[.int .u8 (c : Int)] 5)) := by
            rw [conv_byte, str_bs]; rfl
          have HTg15 := Lib.hid (hTg2.go (upA w14 (.cells #[.int .u8 (c : Int)] 5)))
          obtain ⟨p2, hp2⟩ : ∃ p, ((hx x).map bs)[a]? = some p := ⟨_, List.getElem?_eq_getElem (by rw [List.length_map, HHL.out]; exact ha7)⟩
          have hcg2 := HTg15.out.2 a _ hp2
          rw [Nat.zero_add] at hcg2
          have hfg15 : (w14.alloc (.cells #[.int .u8 (c : Int)] 5)).frozen? ⟨gq, a, none⟩ = false := (frozen_go (upA w14 _) hTg2.1).trans (hfg2 a)
          clear hO14 hB14 hTg2 hfg2 hup hp2
          go_upto_region 14 with fail
          have HC1 : Hid (UInt8.ofNat c = UInt8.ofNat c) := Lib.hid rfl
          have hne1 : ¬ gq = g := by have := HG13.out.1; omega
          have hne2 : ¬ gq = b3 := by have := HTL13.out.1; omega
          have HOD := Lib.hid (HTg15.out.set a [UInt8.ofNat c] (by rw [HHL.out]; exact ha7))
          have HG16 := Lib.hid ((HG14.out.go (upA w14 (.cells #[.int .u8 (c : Int)] 5))).far (k := a) (v := .string (bs [UInt8.ofNat c])) hne1)
          have HTL16 := Lib.hid ((HTL14.out.go (upA w14 (.cells #[.int .u8 (c : Int)] 5))).far (k := a) (v := .string (bs [UInt8.ofNat c])) hne2)
          have HB16 := Lib.hid (HB13.out.trans ((below_set (k := a) (v := .string (bs [UInt8.ofNat c])) (HUP.out.trans ((upA w14 (.cells #[.int .u8 (c : Int)] 5)).mono HUP.out.size)) hg21).mono HB13.out.size))
          obtain ⟨w16, hw16⟩ : ∃ w', (w14.alloc (.cells #[.int .u8 (c : Int)] 5)).setCell ⟨gq, a, none⟩ (.string (bs [UInt8.ofNat c])) = w' := ⟨_, rfl⟩
          rw [hw16] at HOD HG16 HTL16 HB16 ⊢
          clear hw16 hcv hcg2 hfg15 HTg15
          have HJ5 := Lib.hid (fun W (hB : Below w16.heap.size w16 W) => ((HG16.out.go hB).join (n := 8) (c := c9) (by rw [List.length_set, HHL.out]) (by decide) hg2 (by have := set_len15 H8.out H16.out a (f := f5) (by have := HF5.out.2.2.2; omega); omega)).mono fun e w' h => (⟨h.1, upB hB h.2⟩ : Texts (jn ((hx x).set a f5)) w16 e w'))
          have HJL := Lib.hid (fun W (hB : Below w16.heap.size w16 W) => ((HTL16.out.go hB).join (n := 7) (c := c13) HLL7.out (by decide) H73.out (by have := less_len H8.out H16.out a ha7; omega)).mono fun e w' h => (⟨h.1, upB hB h.2⟩ : Texts (jn ((hx x).take a ++ (hx x).drop (a + 1))) w16 e w'))
          have HJO := Lib.hid (fun W (hB : Below w16.heap.size w16 W) => ((HOD.out.go hB).join (n := 8) (c := c14) (by rw [List.length_set, HHL.out]) (by decide) hg22 (by have := set_len15 H8.out H16.out a (f := [UInt8.ofNat c]) (by simp); omega)).mono fun e w' h => (⟨h.1, upB hB h.2⟩ : Texts (jn ((hx x).set a [UInt8.ofNat c])) w16 e w'))
          obtain ⟨s5, hs5⟩ : ∃ s, bs (jn ((hx x).set a f5)) = s := ⟨_, rfl⟩
          obtain ⟨sL, hsL⟩ : ∃ s, bs (jn ((hx x).take a ++ (hx x).drop (a + 1))) = s := ⟨_, rfl⟩
          have HN9 := Lib.hid (nine H8.out H16.out a ha7 HF5.out.1 HF5.out.2.1 HF5.out.2.2.1 HF5.out.2.2.2 HSW.out hs5 hsL)
          have HOC : Hid (Lib.indexByte hexc (UInt8.ofNat c) < 0 → prs (jn ((hx x).set a [UInt8.ofNat c])) = none) := Lib.hid (fun h => by
            obtain ⟨o1, o2, o3⟩ := odd_ix ⟨c, by omega⟩ h
            exact set_bad H8.out H16.out a ha7 ⟨by simp, o3⟩ o1 o2)
          have HOL : Hid ((bs (jn ((hx x).set a [UInt8.ofNat c]))).size ≤ 128) := Lib.hid (by rw [bs_size]; exact set_len15 H8.out H16.out a (f := [UInt8.ofNat c]) (by simp))
          have HPO := Lib.hid (show dl (bs (jn ((hx x).set a [UInt8.ofNat c]))) = jn ((hx x).set a [UInt8.ofNat c]) from bs_data _)
          unfold Texts at HJO
          have HJ5' : Hid (∀ W, Below w16.heap.size w16 W → Calls Tryd.prog 19 #[.slice (some ⟨g, 0, none⟩) 8 c9, .string ⟨#[58]⟩] W (fun e w' => e = .returned (.string s5) ∧ Below w16.heap.size w16 w')) := by rw [← hs5]; exact HJ5
          have HJL' : Hid (∀ W, Below w16.heap.size w16 W → Calls Tryd.prog 19 #[.slice (some ⟨b3, o3, none⟩) 7 c13, .string ⟨#[58]⟩] W (fun e w' => e = .returned (.string sL) ∧ Below w16.heap.size w16 w')) := by rw [← hsL]; exact HJL
          obtain ⟨sO, hsO⟩ : ∃ s, bs (jn ((hx x).set a [UInt8.ofNat c])) = s := ⟨_, rfl⟩
          rw [hsO] at HJO HOL HPO
          have hk1 : ¬ (9223372036854775807 < sW.size + 1) := by omega
          have hk2 : ¬ (9223372036854775807 < 1 + sW.size) := by omega
          have hk3 : ¬ (9223372036854775807 < sW.size + 2) := by omega
          have hk4 : ¬ (9223372036854775807 < 2 + sW.size) := by omega
          have hr16 : Below w16.heap.size w16 w16 := Below.refl _ _
          have HIX := Lib.hid (fun W => IndexByte_any ⟨#[48, 49, 50, 51, 52, 53, 54, 55, 56, 57, 97, 98, 99, 100, 101, 102, 65, 66, 67, 68, 69, 70, 58]⟩ c W)
          clear HJ5 HJL hs5 hsL hsO HT9 HTg HT11 HG11 HT13 HG13 HTL13 HTL14 HG14 HUP HRW HRW2 HC8 HT HT8 HTL16 HG16 HOD hne1 hne2 hg21 hg22 hg1 hg2 hgb hg9 hb8 H73 HLL7 HPM HC1
          go_upto_region 15 with (first
            | (go_at_call 19; (with_reducible refine (HJ5'.out _ hr16).mono ?_); rintro e w17 ⟨rfl, hB17⟩)
            | (go_at_call 19; (with_reducible refine (HJL'.out _ hB17).mono ?_); rintro e w18 ⟨rfl, hB18⟩)
            | fail)
          have HC9 : Hid (∀ i, i < 9 → ∃ t, (w18.alloc (.cells #[.string (sW ++ ⟨#[58]⟩), .string (⟨#[58]⟩ ++ sW), .string (sW ++ ⟨#[58, 49]⟩), .string (sW ++ ⟨#[58, 58]⟩), .string (⟨#[58, 58]⟩ ++ sW), .string s5, .string sL, .string ⟨#[58, 58, 58]⟩, .string ⟨#[49, 58, 58, 58, 50]⟩] 9)).cell? ⟨w18.heap.size, i, none⟩ = some (.string t) ∧ t.size ≤ 1000000 ∧ prs (dl t) = none) := Lib.hid (fun i hi => by
            have h9 := HN9.out
            have hd : i = 0 ∨ i = 1 ∨ i = 2 ∨ i = 3 ∨ i = 4 ∨ i = 5 ∨ i = 6 ∨ i = 7 ∨ i = 8 := by omega
            rcases hd with rfl | rfl | rfl | rfl | rfl | rfl | rfl | rfl | rfl
            all_goals exact ⟨_, by rw [World.cell?_alloc_new]; rfl, h9 _ (by simp)⟩)
          have HO19 := Lib.hid (hB18.alloc hB18.size (.cells #[.string (sW ++ ⟨#[58]⟩), .string (⟨#[58]⟩ ++ sW), .string (sW ++ ⟨#[58, 49]⟩), .string (sW ++ ⟨#[58, 58]⟩), .string (⟨#[58, 58]⟩ ++ sW), .string s5, .string sL, .string ⟨#[58, 58, 58]⟩, .string ⟨#[49, 58, 58, 58, 50]⟩] 9))
          have hl19 : w18.heap.size < (w18.alloc (.cells #[.string (sW ++ ⟨#[58]⟩), .string (⟨#[58]⟩ ++ sW), .string (sW ++ ⟨#[58, 49]⟩), .string (sW ++ ⟨#[58, 58]⟩), .string (⟨#[58, 58]⟩ ++ sW), .string s5, .string sL, .string ⟨#[58, 58, 58]⟩, .string ⟨#[49, 58, 58, 58, 50]⟩] 9)).heap.size := by rw [World.size_alloc]; omega
          obtain ⟨w19, hw19⟩ : ∃ w', w18.alloc (.cells #[.string (sW ++ ⟨#[58]⟩), .string (⟨#[58]⟩ ++ sW), .string (sW ++ ⟨#[58, 49]⟩), .string (sW ++ ⟨#[58, 58]⟩), .string (⟨#[58, 58]⟩ ++ sW), .string s5, .string sL, .string ⟨#[58, 58, 58]⟩, .string ⟨#[49, 58, 58, 58, 50]⟩] 9) = w' := ⟨_, rfl⟩
          rw [hw19] at HC9 HO19 hl19 ⊢
          have HB19 := Lib.hid (HB16.out.trans (HO19.out.mono HB16.out.size))
          clear hw19 hB17 hB18 hr16 HJ5' HJL' HN9 hk1 hk2 hk3 hk4
          go_loopg [105] 9 (fun gg s105 wr => ∃ i : Nat, s105 = .int .i64 (i : Int) ∧ 9 - i = gg ∧ i ≤ 9 ∧ Hid (Below w19.heap.size w19 wr))
          case atStart => exact ⟨0, rfl, rfl, Nat.zero_le _, Lib.hid (Below.refl _ _)⟩
          case round =>
            obtain ⟨i, rfl, rfl, hi, HBr⟩ := hrel
            have HBx := Lib.hid (HB19.out.trans (HBr.out.mono HB19.out.size))
            by_cases hlt : i < 9
            · have hltz : (i : Int) < 9 := by omega
              have hii : (0 : Int) ≤ (i : Int) ∧ (i : Int) < 9 := by omega
              have hit : (i : Int).toNat = i := by omega
              obtain ⟨t, ht1, ht2, ht3⟩ := HC9.out i hlt
              have hct : wr.cell? ⟨w18.heap.size, i, none⟩ = some (.string t) := (HBr.out.cell (p := ⟨w18.heap.size, i, none⟩) hl19).trans ht1
              have HNO := Lib.hid (fun W h => none_yes t ht2 W h ht3)
              clear ht1 ht2 ht3
              go_wp2_with (first | (go_at_call 24; refine (HNO.out _ (HE.out _ HBx.out)).mono ?_; rintro e w20 ⟨rfl, hB20⟩) | fail)
              go_roundg (9 - (i + 1))
              case measure => omega
              case rel => exact ⟨i + 1, by go_num, rfl, by omega, Lib.hid (HBr.out.trans (hB20.mono HBr.out.size))⟩
            · obtain rfl : i = 9 := by omega
              have hBo : Below w16.heap.size w16 wr := HO19.out.trans (HBr.out.mono HO19.out.size)
              have hnl : ¬ ((9 : Nat) : Int) < (9 : Int) := by omega
              obtain ⟨ix, hix⟩ : ∃ ix, Lib.indexByte (dl ⟨#[48, 49, 50, 51, 52, 53, 54, 55, 56, 57, 97, 98, 99, 100, 101, 102, 65, 66, 67, 68, 69, 70, 58]⟩) (UInt8.ofNat c) = ix := ⟨_, rfl⟩
              have hoc : ix < 0 → prs (dl sO) = none := fun h => by
                rw [HPO.out]
                exact HOC.out (by rw [← hix] at h; exact h)
              rw [hix] at HIX
              clear hix hlt hi HC9 HBr
              by_cases hx0 : ix < 0
              · have hx1 : decide (ix < 0) = true := decide_eq_true hx0
                have HNO := Lib.hid (fun W h => none_yes sO (by have := HOL.out; omega) W h (hoc hx0))
                clear hoc
                go_upto_region 20 with fail
                go_upto_region 22 with (first
                  | (go_at_call 25; refine (HIX.out _).mono ?_; rintro e w21 ⟨rfl, rfl⟩)
                  | (go_at_call 19; (with_reducible refine (HJO.out _ (by assumption)).mono ?_); rintro e w22 ⟨rfl, hB22⟩; have HB22 := Lib.hid (HB16.out.trans (hB22.mono HB16.out.size)))
                  | (go_at_call 24; (with_reducible refine (HNO.out _ (HE.out _ HB22.out)).mono ?_); rintro e w23 ⟨rfl, hB23⟩; have HB23 := Lib.hid (HB22.out.trans (hB23.mono HB22.out.size)))
                  | fail)
                go_wp2_with (first | (go_at_call 8; refine (HAW.out _ (HE.out _ HB23.out)).mono ?_; rintro e w24 ⟨rfl, hB24⟩) | fail)
                go_ret
                exact ⟨rfl, HB0.out.trans ((HB23.out.trans (hB24.mono HB23.out.size)).mono HB0.out.size)⟩
              · have hx1 : decide (ix < 0) = false := decide_eq_false hx0
                clear hoc
                go_upto_region 20 with fail
                go_upto_region 22 with (first
                  | (go_at_call 25; refine (HIX.out _).mono ?_; rintro e w21 ⟨rfl, rfl⟩)
                  | fail)
                go_wp2_with (first | (go_at_call 8; refine (HAW.out _ (HE.out _ HBx.out)).mono ?_; rintro e w24 ⟨rfl, hB24⟩) | fail)
                go_ret
                exact ⟨rfl, HB0.out.trans ((HBx.out.trans (hB24.mono HBx.out.size)).mono HB0.out.size)⟩

/-! From the walk to the given statement. -/
set_option linter.unusedVariables false
theorem own : ownKnob Tryd.prog.godebug = none := by kernel_rfl
theorem laidOut : laidOutB Tryd.prog = true := by kernel_rfl
set_option maxRecDepth 100000 in
theorem lifted (os : Os) (started : os.Started) (H : Type) (enc : TypeId × Value → H) :
    ReturnsInHanded {} Tryd.checked os 7 .any (fun w args => (Rows.sixWrongSpec.pre enc Tryd.prog Tryd.f7 [] false w args ∧ laidMetH Tryd.prog Rows.sixWrongRow.laid w) ∧ sizedMet enc Tryd.prog Tryd.f7 (OpenSpec.ofChange Rows.sixWrongSpec) false w args)
      (Rows.sixWrongSpec.post enc Tryd.prog Tryd.f7 false true false false) := by
  refine returnsIn_and_shaped (C := Tryd.checked) (X := fun w _ => laidMetH Tryd.prog Rows.sixWrongRow.laid w) (fun _ _ _ hh h => h.of_heap hh) own started (by kernel_rfl) Tryd.func7
    (ChangeSpec.witness_shaped (enc := enc) (C := Tryd.checked) (os := os) (X := fun w _ => laidMetH Tryd.prog Rows.sixWrongRow.laid w) false (World.laidAll Tryd.prog os Rows.sixWrongRow.laid) #[.agg #[.int .u16 0, .int .u16 0, .int .u16 0, .int .u16 0, .int .u16 0, .int .u16 0, .int .u16 0, .int .u16 0], .int .u8 0, .int .u8 0, .string .empty] 8 (World.laidAll_os _ _ _)
      (World.shaped_of_ZipB (by kernel_rfl) (by kernel_rfl)) (by kernel_rfl) (by kernel_rfl) (by kernel_rfl)
      (by rw [MakeChecks.laidMetH_plain _ _ _ (by kernel_rfl)]; exact laidMet_laidAll _ (by kernel_rfl) (by kernel_rfl))) ?_
  intro W base args ds gs before hval0 hW _ _ hL hsh _
  have hval : ∀ (j : Nat) t v, Tryd.f7.params[j]? = some t → args[j]? = some v → Value.okWide Tryd.prog W .any base t v := hval0
  have hW' := hW
  obtain ⟨p, q, hA0, hV, rfl, _, _⟩ := hW
  have hA : DataW.TrodAll enc Tryd.prog W 0 (fun _ => true) true Tryd.f7.params.toList args.toList ds p := hA0
  rw [Tryd.params7] at hA hval
  obtain ⟨v0, vs0, d0, ds0, p0, q0, hargs, rfl, rfl, h0, r0⟩ := trodAll_cons hA
  obtain ⟨v1, vs1, d1, ds1, p1, q1, rfl, rfl, rfl, h1, r1⟩ := trodAll_cons r0
  obtain ⟨v2, vs2, d2, ds2, p2, q2, rfl, rfl, rfl, h2, r2⟩ := trodAll_cons r1
  obtain ⟨v3, vs3, d3, ds3, p3, q3, rfl, rfl, rfl, h3, r3⟩ := trodAll_cons r2
  obtain ⟨rfl, rfl, rfl⟩ := trodAll_nil r3
  obtain rfl : args = #[v0, v1, v2, v3] := by cases args; simp_all
  obtain ⟨rfl, rfl⟩ := trodVars_none hV
  obtain ⟨xs0, rfl, n0⟩ := WideMaps.okWide_arr arr8_key (hval 0 23 v0 rfl rfl)
  have k0 := h0
  obtain ⟨rfl, x0, l0, m0, rfl⟩ := arr8_open n0 h0
  have lt0 : ∀ x ∈ ([] : List MemPlace), x.block < W.heap.size := fun x hx => by cases hx
  obtain ⟨a1, rfl, rfl, rfl, w1⟩ := open_int Tryd.underlying5 (hval 1 5 v1 rfl rfl) h1
  have b1 : 0 ≤ a1 ∧ a1 ≤ 255 := by simpa [Lit.wf, IntKind.min, IntKind.max, IntKind.signed, IntKind.bits] using w1
  obtain ⟨a2, rfl, rfl, rfl, w2⟩ := open_int Tryd.underlying5 (hval 2 5 v2 rfl rfl) h2
  have b2 : 0 ≤ a2 ∧ a2 ≤ 255 := by simpa [Lit.wf, IntKind.min, IntKind.max, IntKind.signed, IntKind.bits] using w2
  obtain ⟨a3, rfl, rfl, rfl, w3⟩ := open_string Tryd.underlying9 (hval 3 9 v3 rfl rfl) h3
  clear hA0 hval0
  rw [MakeChecks.laidMetH_plain _ _ _ (by kernel_rfl)] at hL
  have hEnv : Env W := env_of hsh (Lib.laidMet.reads hL (.tail _ (.head _))) (Lib.laidMet.reads hL (.tail _ (.tail _ (.head _)))) (Lib.laidMet.reads hL (.tail _ (.tail _ (.tail _ (.tail _ (.head _)))))) (Lib.laidMet.reads hL (.tail _ (.tail _ (.tail _ (.tail _ (.tail _ (.head _)))))))
  refine (walk x0 a1 a2 a3 W l0 m0 b1.1 b1.2 b2.1 b2.2 w3 hEnv).mono fun e W' ⟨he, bel⟩ => ?_
  subst he
  exact ⟨_, rfl, _, _, _, [], _, [], hW', trodAll_mk1 (shut_bool Tryd.underlying4 _), (trodAll_cons_mk (Below.trod laidOut (by kernel_rfl) (of_decide_eq_true (by kernel_rfl)) k0 bel lt0) (trodAll_cons_mk (shut_int Tryd.underlying5 w1) (trodAll_cons_mk (shut_int Tryd.underlying5 w2) (trodAll_cons_mk (shut_string Tryd.underlying9 w3) trodAll_mk0)))), rfl, bel.frame _, fun h => by cases h⟩

theorem row_holds : Rows.SixWrongSaid :=
  OpenClaim.holds_of_wide 7 Tryd.f7 rfl rfl rfl rfl rfl rfl rfl ⟨rfl, rfl, rfl, rfl, rfl⟩ rfl rfl rfl rfl rfl (by kernel_rfl) Tryd.func7 (by kernel_rfl)
    (of_decide_eq_true (by kernel_rfl)) (by unfold Func.isWrapper; first | (rw [if_pos (by decide +kernel)]; kernel_rfl) | (rw [if_neg (by decide +kernel)]; exact ⟨rfl, rfl⟩))
    (fun os started H enc _ => lifted os started H enc)

theorem proved : Rows.SixWrongCardSaid :=
  Claim7.holds_tied_plain_at .later [] [.data, .data, .data, .data, .sentinel, .sentinel, .pinned] true (true, "088f59884a7ce57d9b8a56315fa832e1f9ff9639c70780f69158d45bb9a90f63") true
    row_holds (fun _ h => by cases h) (by kernel_rfl) (fun _ h => by cases h) sixWrong_row_tie rfl ⟨rfl, rfl⟩ (by kernel_rfl) rfl
    (fun f fn hf hfn => by
      obtain rfl : f = 7 := Option.some.inj ((show Tryd.prog.funcNamed "fascia/fascialaw13.SixWrong" = some 7 by kernel_rfl).symm.trans hf) |>.symm
      obtain rfl : fn = Tryd.f7 := (Option.some.inj (Tryd.func7.symm.trans hfn)).symm
      exact ⟨by kernel_rfl, fun j t ht => by
        rw [Tryd.params7] at ht
        have hm : t ∈ [23, 5, 5, 9] := by simpa using Array.mem_of_getElem? ht
        have hall : ([23, 5, 5, 9].all fun u => !Tryd.prog.wantsStandIn u) = true := by kernel_rfl
        exact (show Tryd.prog.wantsStandIn t = false by simpa using List.all_eq_true.1 hall t hm)⟩)
    (by kernel_rfl)
end Go.Proofs.YtkbaafmkgjffoaaDoor.sixWrong
