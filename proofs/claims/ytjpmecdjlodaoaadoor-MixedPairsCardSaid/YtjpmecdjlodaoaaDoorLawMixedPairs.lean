/-
  For any two rows of the table, and any third one that is of no own script: of two scripts in one label just Latin, Han, Hiragana and Katakana go with one another, and Hangul with Latin and Han; each with what is Common, or Inherited (fascialaw10.MixedPairs answers true). No condition.
-/
import Derived.Test.YtjpmecdjlodaoaaDoorMixH
import Derived.Test.YtjpmecdjlodaoaaDoorFrame
import Derived.Deep.RegionHeld3
import Derived.Deep.DrawnRows
import Derived.Deep.DeepCutAuto
import Derived.BigQuiet
import Derived.Deep.QuietTactic
import Derived.Test.YtjpmecdjlodaoaaDoorTie
import Derived.Test.YtjpmecdjlodaoaaDoorCards
import Derived.ProofKit
import Derived.Lay
import Derived.Stop.Joined
import Derived.SevenTiedAt
namespace Go.Proofs.YtjpmecdjlodaoaaDoor.mixedPairs
open Go.ChangeShapes Go.WideShapes Go.ChangeAt Go.RowKit Mix Rul Ucd

theorem idx166 (a : Int) (h0 : 0 ≤ a) (_h1 : a ≤ 255) : ∃ i : Nat, i < 166 ∧ a % 166 = (i : Int) ∧ a.tmod 166 = (i : Int) ∧ (i : Int) < 166 ∧ 0 ≤ (i : Int) := ⟨(a % 166).toNat, by omega, by omega, by rw [Int.tmod_eq_emod_of_nonneg h0]; omega, by omega, by omega⟩
set_option maxRecDepth 100000 in
set_option maxHeartbeats 8000000 in
theorem walk (a b c : Int) (w : World) (ha0 : 0 ≤ a) (ha1 : a ≤ 255) (hb0 : 0 ≤ b) (hb1 : b ≤ 255) (hc0 : 0 ≤ c) (hc1 : c ≤ 255) : Calls Tryd.prog 5 #[.int .u8 a, .int .u8 b, .int .u8 c] w fun e w' => e = .returned (.bool true) ∧ Below w.heap.size w w' := by
  obtain ⟨i, hi, hia, hit, hiz, hiy⟩ := idx166 a ha0 ha1
  obtain ⟨j, hj, hjb, hjt, hjz, hjy⟩ := idx166 b hb0 hb1
  obtain ⟨k, hk, hkc, hkt, hkz, hky⟩ := idx166 c hc0 hc1
  have hwa : IntKind.i64.wrap a = a := IntWalk.i64_in _ (by omega)
  have hwb : IntKind.i64.wrap b = b := IntWalk.i64_in _ (by omega)
  have hwc : IntKind.i64.wrap c = c := IntWalk.i64_in _ (by omega)
  go_enter Tryd.func5, Tryd.ntmps5
  go_upto_region 4 with (go_at_call 17; refine (Table_out _).mono ?_; rintro e wr ⟨gt, cap, rfl, hcap, hgt, hT, hB1⟩)
  go_cut [8, 9, 10] (fun s8 s9 s10 wx => ∃ X Y Z, s8 = .pointer (some ⟨X, 0, none⟩) ∧ s9 = .pointer (some ⟨Y, 0, none⟩) ∧ s10 = .pointer (some ⟨Z, 0, none⟩) ∧ Three w wx X Y Z i j k)
  case first =>
    have hTB : Hid (∀ W, Below wr.heap.size wr W → TabS gt i j k W) := Lib.hid (fun W h => (hT.go h).tabS hi hj hk)
    have hTW := hTB.out wr (Below.refl _ _)
    obtain ⟨t0, t1, t2, t3, t4, t5, t6, t7, t8, t9, t10, t11, t12, t13, t14, t15, t16, t17, t18, t19, t20, t21, t22, t23, t24, t25, t26⟩ := hTW
    have hgl := hT.1
    clear hT hi hj hk ha0 ha1 hb0 hb1 hc0 hc1 hia hjb hkc
    go_region_held3 (fun w' => w'.cell? ⟨gt, i * 9, none⟩ = some (.int .i32 (fr i)) ∧ w'.cell? ⟨gt, i * 9 + 1, none⟩ = some (.int .i32 (Ucd.to i)) ∧ w'.cell? ⟨gt, i * 9 + 2, none⟩ = some (.int .u8 (g (pr i) 0)) ∧ w'.cell? ⟨gt, i * 9 + 3, none⟩ = some (.int .u8 (g (pr i) 1)) ∧ w'.cell? ⟨gt, i * 9 + 4, none⟩ = some (.int .u8 (g (pr i) 2)) ∧ w'.cell? ⟨gt, i * 9 + 5, none⟩ = some (.int .u8 (g (pr i) 3)) ∧ w'.cell? ⟨gt, i * 9 + 6, none⟩ = some (.int .u8 (g (pr i) 4)) ∧ w'.cell? ⟨gt, i * 9 + 7, none⟩ = some (.int .u8 (g (pr i) 5)) ∧ w'.cell? ⟨gt, i * 9 + 8, none⟩ = some (.int .u8 (g (pr i) 6)) ∧ w'.cell? ⟨gt, j * 9, none⟩ = some (.int .i32 (fr j)) ∧ w'.cell? ⟨gt, j * 9 + 1, none⟩ = some (.int .i32 (Ucd.to j)) ∧ w'.cell? ⟨gt, j * 9 + 2, none⟩ = some (.int .u8 (g (pr j) 0)) ∧ w'.cell? ⟨gt, j * 9 + 3, none⟩ = some (.int .u8 (g (pr j) 1)) ∧ w'.cell? ⟨gt, j * 9 + 4, none⟩ = some (.int .u8 (g (pr j) 2)) ∧ w'.cell? ⟨gt, j * 9 + 5, none⟩ = some (.int .u8 (g (pr j) 3)) ∧ w'.cell? ⟨gt, j * 9 + 6, none⟩ = some (.int .u8 (g (pr j) 4)) ∧ w'.cell? ⟨gt, j * 9 + 7, none⟩ = some (.int .u8 (g (pr j) 5)) ∧ w'.cell? ⟨gt, j * 9 + 8, none⟩ = some (.int .u8 (g (pr j) 6)) ∧ w'.cell? ⟨gt, k * 9, none⟩ = some (.int .i32 (fr k)) ∧ w'.cell? ⟨gt, k * 9 + 1, none⟩ = some (.int .i32 (Ucd.to k)) ∧ w'.cell? ⟨gt, k * 9 + 2, none⟩ = some (.int .u8 (g (pr k) 0)) ∧ w'.cell? ⟨gt, k * 9 + 3, none⟩ = some (.int .u8 (g (pr k) 1)) ∧ w'.cell? ⟨gt, k * 9 + 4, none⟩ = some (.int .u8 (g (pr k) 2)) ∧ w'.cell? ⟨gt, k * 9 + 5, none⟩ = some (.int .u8 (g (pr k) 3)) ∧ w'.cell? ⟨gt, k * 9 + 6, none⟩ = some (.int .u8 (g (pr k) 4)) ∧ w'.cell? ⟨gt, k * 9 + 7, none⟩ = some (.int .u8 (g (pr k) 5)) ∧ w'.cell? ⟨gt, k * 9 + 8, none⟩ = some (.int .u8 (g (pr k) 6))) (exact hTB.out _ (by (repeat (first | with_reducible exact Below.refl _ _ | (with_reducible refine up_set ?_ ?_; rotate_left; (· omega)) | with_reducible refine up_alloc ?_ | with_reducible refine up_drew ?_)))) (fail)
    all_goals (
      go_wp2_with fail
      go_meet
      refine ⟨_, _, _, rfl, rfl, rfl, ?_⟩
      first | with_reducible exact three_ijk hB1 | with_reducible exact three_ikj hB1 | with_reducible exact three_jik hB1 | with_reducible exact three_jki hB1 | with_reducible exact three_kij hB1 | with_reducible exact three_kji hB1)
  case rest =>
    obtain ⟨X, Y, Z, rfl, rfl, rfl, hX, hY, hZ, hXZ, hYZ, hbZ, hB⟩ := hcut
    have hfi := fr_bd hi
    have hfj := fr_bd hj
    have hfk := fr_bd hk
    have x0 := hX.cell 0
    have x6 := hX.cell 6
    have y1 := hY.cell 1
    have y6 := hY.cell 6
    have z0 := hZ.cell 0
    have z6 := hZ.cell 6
    have fz : wc.frozen? ⟨Z, 0, none⟩ = false := by unfold Rg at hZ; simp [World.frozen?, hZ]
    simp only [List.getElem?_cons_zero, List.getElem?_cons_succ] at x0 x6 y1 y6 z0 z6
    have hlX := hX.lt
    have hlY := hY.lt
    have hlZ := hZ.lt
    have si := sc_fr hi
    have sj := sc_to hj
    have sk := sc_fr hk
    have bi := sc_bd (fr i)
    have bj := sc_bd (Ucd.to j)
    generalize fr i = x at x0 si bi hfi
    generalize Ucd.to j = y at y1 sj bj hfj
    generalize fr k = z at z0 sk hfk
    rw [← si] at x6
    rw [← sj] at y6
    rw [← sk] at z6
    have hx0 : 0 ≤ x := hfi.1
    have hy0 : 0 ≤ y := by omega
    have hz0 : 0 ≤ z := hfk.1
    clear si sj sk hfi hfj hfk hi hj hk hT hB1 hia hjb hkc hit hjt hkt hiz hjz hkz hiy hjy hky hwa hwb hwc ha0 ha1 hb0 hb1 hc0 hc1 hX hY hZ
    go_upto_if 49 with fail
    go_cut [50] (fun s50 wx => ∃ zz : Int, 0 ≤ zz ∧ sc zz ≤ 1 ∧ wx.cell? ⟨Z, 0, none⟩ = some (.int .i32 zz) ∧ wx.cell? ⟨X, 0, none⟩ = some (.int .i32 x) ∧ wx.cell? ⟨X, 6, none⟩ = some (.int .u8 (sc x)) ∧ wx.cell? ⟨Y, 1, none⟩ = some (.int .i32 y) ∧ wx.cell? ⟨Y, 6, none⟩ = some (.int .u8 (sc y)) ∧ Below w.heap.size w wx ∧ X < wx.heap.size ∧ Y < wx.heap.size ∧ Z < wx.heap.size)
    case first =>
      rcases Decidable.em (1 < sc z) with h6 | h6
      · go_wp2_with fail
        go_meet
        have hlq : (wc.setCell ⟨Z, 0, none⟩ (.int .i32 769)).heap.size = wc.heap.size := size_set wc Z 0 _
        refine ⟨769, by decide, by rw [sc_769]; decide, World.cell?_setCell_same _ _ _ z0, (World.cell?_setCell_other _ _ _ _ (fun e => hXZ (congrArg Addr.block e).symm)).trans x0, (World.cell?_setCell_other _ _ _ _ (fun e => hXZ (congrArg Addr.block e).symm)).trans x6, (World.cell?_setCell_other _ _ _ _ (fun e => hYZ (congrArg Addr.block e).symm)).trans y1, (World.cell?_setCell_other _ _ _ _ (fun e => hYZ (congrArg Addr.block e).symm)).trans y6, hB.setCell (p := ⟨Z, 0, none⟩) hbZ (.int .i32 769), ?_, ?_, ?_⟩
        · rw [hlq]; exact hlX
        · rw [hlq]; exact hlY
        · rw [hlq]; exact hlZ
      · go_wp2_with fail
        go_meet
        exact ⟨z, hz0, by omega, z0, x0, x6, y1, y6, hB, hlX, hlY, hlZ⟩
    case rest =>
      clear x0 x6 y1 y6 z0 z6 fz hB hz0 hlX hlY hlZ
      obtain ⟨zz, hz1, hs1, w0, v0, v6, u1, u6, hBq, hlX, hlY, hlZ⟩ := hcut
      rename World => wc
      clear hXZ hYZ hbZ
      have HLV : Hid (∀ W : World, Calls Tryd.prog 10 #[.slice (some ⟨W.heap.size, 0, none⟩) 3 3] (W.alloc (.cells #[.int .i32 x, .int .i32 zz, .int .i32 y] 21)) (Tells (.int .u8 (lev [x, zz, y])) (W.alloc (.cells #[.int .i32 x, .int .i32 zz, .int .i32 y] 21)))) := Lib.hid (fun W => level_in [x, zz, y] W (by simp))
      have HCK : Hid (∀ W, Row W W.heap.size (some ⟨wc.heap.size, 0, none⟩) (cl .i32 [x, zz, y]) → Calls Tryd.prog 14 #[.slice (some ⟨wc.heap.size, 0, none⟩) 3 3] W (Tells (.int .u8 (Mix.chk [x, zz, y])) W)) := Lib.hid (fun W hr => Check_any [x, zz, y] _ 3 3 W rfl (by decide) hr)
      have HLE := Lib.hid (lev3 hx0 hz1 hy0 hs1)
      have HC4 := Lib.hid (@chk_any4 [x, zz, y])
      have HRW := Lib.hid (row_new' wc (cl .i32 [x, zz, y]) 21)
      have hupa := upA wc (.cells (cl .i32 [x, zz, y]).toArray 21)
      generalize lev [x, zz, y] = lvl at HLV HLE HC4
      generalize Mix.chk [x, zz, y] = ckl at HCK HC4
      go_upto_region 9 with (first | (go_at_call 10; refine (HLV.out _).mono ?_; rintro e w1 ⟨rfl, hB1⟩; have hB1 : Below (wc.alloc (.cells #[.int .i32 x, .int .i32 zz, .int .i32 y] 21)).heap.size (wc.alloc (.cells #[.int .i32 x, .int .i32 zz, .int .i32 y] 21)) w1 := hB1) | fail)
      have HRX := Lib.hid (upR HRW.out hB1)
      have hB1 := upB (upA wc _) hB1
      have v0' := (hB1.cell (p := ⟨X, 0, none⟩) hlX).trans v0
      have v6' := (hB1.cell (p := ⟨X, 6, none⟩) hlX).trans v6
      have u1' := (hB1.cell (p := ⟨Y, 1, none⟩) hlY).trans u1
      have u6' := (hB1.cell (p := ⟨Y, 6, none⟩) hlY).trans u6
      have w0' := (hB1.cell (p := ⟨Z, 0, none⟩) hlZ).trans w0
      clear v0 v6 u1 u6 w0
      have hBw := hBq.trans (hB1.mono hBq.size)
      go_cut [13] (fun s13 wx => s13 = .bool (decide (x < 128) && decide (y < 128) && decide (zz < 128)) ∧ wx = w1)
      case first =>
        rcases Decidable.em (x < 128) with a1 | a1
        · have d1 : decide (x < 128) = true := decide_eq_true a1
          rcases Decidable.em (y < 128) with a2 | a2
          · have d2 : decide (y < 128) = true := decide_eq_true a2
            have HQ2 : Hid ((decide (x < 128) && decide (y < 128) && decide (zz < 128)) = decide (zz < 128)) := Lib.hid (by rw [d1, d2]; rfl)
            clear a1 a2
            go_wp2_with fail
            go_meet
            exact ⟨by rw [HQ2.out], rfl⟩
          · have d2 : decide (y < 128) = false := decide_eq_false a2
            have HQ2 : Hid ((decide (x < 128) && decide (y < 128) && decide (zz < 128)) = false) := Lib.hid (by rw [d1, d2]; rfl)
            clear a1 a2
            go_wp2_with fail
            go_meet
            exact ⟨by rw [HQ2.out], rfl⟩
        · have d1 : decide (x < 128) = false := decide_eq_false a1
          have HQ2 : Hid ((decide (x < 128) && decide (y < 128) && decide (zz < 128)) = false) := Lib.hid (by rw [d1]; rfl)
          clear a1
          go_wp2_with fail
          go_meet
          exact ⟨by rw [HQ2.out], rfl⟩
      case rest =>
        obtain ⟨rfl, rfl⟩ := hcut
        rename World => w1
        generalize (decide (x < 128) && decide (y < 128) && decide (zz < 128)) = asb at HLE ⊢
        have HLE2 : Hid (∀ p q, sc x = p → sc y = q → lvl = if asb = true then 1 else lv2 p q) := Lib.hid (fun p q h1 h2 => by rw [HLE.out, h1, h2])
        have HLE3 := Lib.hid (HLE2.out _ _ rfl rfl)
        clear HLE HLE2 v0' u1' w0'
        generalize sc x = p at v6' HLE3 bi
        generalize sc y = q at u6' HLE3 bj
        go_upto_region 10 with fail
        go_cut [14, 15] (fun s14 s15 wx => s14 = .int .u8 (mn p q) ∧ s15 = .int .u8 (mx p q) ∧ Below w1.heap.size w1 wx)
        case first =>
          go_region_held3 (fun w' => w'.cell? ⟨X, 6, none⟩ = some (.int .u8 p) ∧ w'.cell? ⟨Y, 6, none⟩ = some (.int .u8 q)) (go_keep) (fail)
          all_goals (
            go_wp2_with fail
            go_meet
            exact ⟨by first | rfl | rw [mn_min], by first | rfl | rw [mx_max], (Below.refl _ _).drew⟩)
        case rest =>
          obtain ⟨rfl, rfl, hBx⟩ := hcut
          rename World => w2
          clear v6' u6'
          have HRW2 := Lib.hid (HCK.out w2 (upR HRX.out hBx))
          have hBw2 := hBw.trans (hBx.mono hBw.size)
          unfold lv2 at HLE3
          have HAW := Lib.hid awake10_any
          clear HLV HCK HRW hB1 hBw hBx hBq hupa hlX hlY hlZ
          generalize mn p q = m at HLE3 ⊢
          generalize mx p q = x at HLE3 ⊢
          clear bi bj
          go_upto_region 11 with fail
          go_cut [16] (fun s16 wx => s16 = .bool (oneB m x) ∧ wx = w2)
          case first =>
            rcases Decidable.em (m = x) with h1 | h1
            · have hb1 : (m == x) = true := by simpa using h1
              have HV : Hid (oneB m x = true) := Lib.hid (by unfold oneB; simp [h1])
              clear h1
              go_wp2_with fail
              go_meet
              exact ⟨by rw [HV.out], rfl⟩
            · have hb1 : (m == x) = false := by simpa using h1
              rcases Decidable.em (m ≤ 1) with h2 | h2
              · have d2 : decide (m ≤ 1) = true := decide_eq_true h2
                have HV : Hid (oneB m x = true) := Lib.hid (by unfold oneB; simp [h2])
                clear h1 h2
                go_wp2_with fail
                go_meet
                exact ⟨by rw [HV.out], rfl⟩
              · have d2 : decide (m ≤ 1) = false := decide_eq_false h2
                rcases Decidable.em (8 ≤ m) with h3 | h3
                · have d3 : decide (8 ≤ m) = true := decide_eq_true h3
                  rcases Decidable.em (x ≤ 10) with h4 | h4
                  · have d4 : decide (x ≤ 10) = true := decide_eq_true h4
                    have HV : Hid (oneB m x = true) := Lib.hid (by unfold oneB; simp [h3, h4])
                    clear h1 h2 h3 h4
                    go_wp2_with fail
                    go_meet
                    exact ⟨by rw [HV.out], rfl⟩
                  · have d4 : decide (x ≤ 10) = false := decide_eq_false h4
                    rcases Decidable.em (m = 8) with h5 | h5
                    · have hb5 : (m == 8) = true := by simpa using h5
                      rcases Decidable.em (x = 11) with h6 | h6
                      · have hb6 : (x == 11) = true := by simpa using h6
                        have HV : Hid (oneB m x = true) := Lib.hid (by unfold oneB; simp [h5, h6])
                        clear h1 h2 h3 h4 h5 h6
                        go_wp2_with fail
                        go_meet
                        exact ⟨by rw [HV.out], rfl⟩
                      · have hb6 : (x == 11) = false := by simpa using h6
                        have HV : Hid (oneB m x = false) := Lib.hid (by unfold oneB; simp [h1, h2, h4, h6])
                        clear h1 h2 h3 h4 h5 h6
                        go_wp2_with fail
                        go_meet
                        exact ⟨by rw [HV.out], rfl⟩
                    · have hb5 : (m == 8) = false := by simpa using h5
                      have HV : Hid (oneB m x = false) := Lib.hid (by unfold oneB; simp [h1, h2, h4, h5])
                      clear h1 h2 h3 h4 h5
                      go_wp2_with fail
                      go_meet
                      exact ⟨by rw [HV.out], rfl⟩
                · have d3 : decide (8 ≤ m) = false := decide_eq_false h3
                  have h5 : ¬ m = 8 := by omega
                  have hb5 : (m == 8) = false := by simpa using h5
                  have HV : Hid (oneB m x = false) := Lib.hid (by unfold oneB; simp [h1, h2, h3, h5])
                  clear h1 h2 h3 h5
                  go_wp2_with fail
                  go_meet
                  exact ⟨by rw [HV.out], rfl⟩
          case rest =>
            obtain ⟨rfl, rfl⟩ := hcut
            rename World => w3
            generalize oneB m x = o1 at HLE3 ⊢
            go_upto_region 12 with fail
            go_cut [17] (fun s17 wx => s17 = .bool (fewB m x) ∧ wx = w3)
            case first =>
              rcases Decidable.em (m = 2) with h1 | h1
              · have hb1 : (m == 2) = true := by simpa using h1
                rcases Decidable.em (8 ≤ x) with h2 | h2
                · have d2 : decide (8 ≤ x) = true := decide_eq_true h2
                  have HV : Hid (fewB m x = true) := Lib.hid (by unfold fewB; simp [h1, h2])
                  clear h1 h2
                  go_wp2_with fail
                  go_meet
                  exact ⟨by rw [HV.out], rfl⟩
                · have d2 : decide (8 ≤ x) = false := decide_eq_false h2
                  have HV : Hid (fewB m x = false) := Lib.hid (by unfold fewB; simp [h2])
                  clear h1 h2
                  go_wp2_with fail
                  go_meet
                  exact ⟨by rw [HV.out], rfl⟩
              · have hb1 : (m == 2) = false := by simpa using h1
                have HV : Hid (fewB m x = false) := Lib.hid (by unfold fewB; simp [h1])
                clear h1
                go_wp2_with fail
                go_meet
                exact ⟨by rw [HV.out], rfl⟩
            case rest =>
              obtain ⟨rfl, rfl⟩ := hcut
              rename World => w4
              generalize fewB m x = o2 at HLE3 ⊢
              cases asb with
              | true =>
                obtain rfl : lvl = 1 := HLE3.out
                go_wp2_with (first | (go_at_call 16; refine (HAW.out _).mono ?_; rintro e w90 ⟨rfl, hB90⟩) | fail)
                go_ret
                exact ⟨rfl, upB hBw2 hB90⟩
              | false =>
                cases o1 with
                | true =>
                  obtain rfl : lvl = 2 := HLE3.out
                  go_wp2_with (first | (go_at_call 16; refine (HAW.out _).mono ?_; rintro e w90 ⟨rfl, hB90⟩) | fail)
                  go_ret
                  exact ⟨rfl, upB hBw2 hB90⟩
                | false =>
                  cases o2 with
                  | true =>
                    obtain rfl : lvl = 3 := HLE3.out
                    go_wp2_with (first | (go_at_call 16; refine (HAW.out _).mono ?_; rintro e w90 ⟨rfl, hB90⟩) | fail)
                    go_ret
                    exact ⟨rfl, upB hBw2 hB90⟩
                  | false =>
                    obtain rfl : lvl = 4 := HLE3.out
                    obtain rfl : ckl = 13 := HC4.out rfl
                    go_wp2_with (first | (go_at_call 14; refine HRW2.out.mono ?_; rintro e w5 ⟨rfl, hB5⟩) | (go_at_call 16; refine (HAW.out _).mono ?_; rintro e w90 ⟨rfl, hB90⟩) | fail)
                    go_ret
                    exact ⟨rfl, upB (upB hBw2 hB5) hB90⟩

/-! From the walk to the given statement. -/
set_option linter.unusedVariables false
theorem own : ownKnob Tryd.prog.godebug = none := by kernel_rfl
theorem laidOut : laidOutB Tryd.prog = true := by kernel_rfl
set_option maxRecDepth 100000 in
theorem lifted (os : Os) (started : os.Started) (H : Type) (enc : TypeId × Value → H) :
    ReturnsInHanded {} Tryd.checked os 5 .any (fun w args => (Rows.mixedPairsSpec.pre enc Tryd.prog Tryd.f5 [] false w args ∧ laidMetH Tryd.prog Rows.mixedPairsRow.laid w) ∧ sizedMet enc Tryd.prog Tryd.f5 (OpenSpec.ofChange Rows.mixedPairsSpec) false w args)
      (Rows.mixedPairsSpec.post enc Tryd.prog Tryd.f5 false true false false) := by
  refine returnsInHanded_of_change_and (C := Tryd.checked) (X := fun w _ => laidMetH Tryd.prog Rows.mixedPairsRow.laid w) (fun _ _ _ hh h => h.of_heap hh) own started (by kernel_rfl) Tryd.func5
    (ChangeSpec.witness_shaped (enc := enc) (C := Tryd.checked) (os := os) (X := fun w _ => laidMetH Tryd.prog Rows.mixedPairsRow.laid w) false (World.laidAll Tryd.prog os Rows.mixedPairsRow.laid) #[.int .u8 0, .int .u8 0, .int .u8 0] 8 (World.laidAll_os _ _ _)
      (World.shaped_of_ZipB (by kernel_rfl) (by kernel_rfl)) (by kernel_rfl) (by kernel_rfl) (by kernel_rfl)
      (by rw [MakeChecks.laidMetH_plain _ _ _ (by kernel_rfl)]; exact laidMet_laidAll _ (by kernel_rfl) (by kernel_rfl))) ?_
  intro W base args ds gs before hval0 hW _ _ hL _
  have hval : ∀ (j : Nat) t v, Tryd.f5.params[j]? = some t → args[j]? = some v → Value.okWide Tryd.prog W .any base t v := hval0
  have hW' := hW
  obtain ⟨p, q, hA0, hV, rfl, _, _⟩ := hW
  have hA : DataW.TrodAll enc Tryd.prog W 0 (fun _ => true) true Tryd.f5.params.toList args.toList ds p := hA0
  rw [Tryd.params5] at hA hval
  obtain ⟨v0, vs0, d0, ds0, p0, q0, hargs, rfl, rfl, h0, r0⟩ := trodAll_cons hA
  obtain ⟨v1, vs1, d1, ds1, p1, q1, rfl, rfl, rfl, h1, r1⟩ := trodAll_cons r0
  obtain ⟨v2, vs2, d2, ds2, p2, q2, rfl, rfl, rfl, h2, r2⟩ := trodAll_cons r1
  obtain ⟨rfl, rfl, rfl⟩ := trodAll_nil r2
  obtain rfl : args = #[v0, v1, v2] := by cases args; simp_all
  obtain ⟨rfl, rfl⟩ := trodVars_none hV
  obtain ⟨a0, rfl, rfl, rfl, w0⟩ := open_int Tryd.underlying5 (hval 0 5 v0 rfl rfl) h0
  have b0 : 0 ≤ a0 ∧ a0 ≤ 255 := by simpa [Lit.wf, IntKind.min, IntKind.max, IntKind.signed, IntKind.bits] using w0
  obtain ⟨a1, rfl, rfl, rfl, w1⟩ := open_int Tryd.underlying5 (hval 1 5 v1 rfl rfl) h1
  have b1 : 0 ≤ a1 ∧ a1 ≤ 255 := by simpa [Lit.wf, IntKind.min, IntKind.max, IntKind.signed, IntKind.bits] using w1
  obtain ⟨a2, rfl, rfl, rfl, w2⟩ := open_int Tryd.underlying5 (hval 2 5 v2 rfl rfl) h2
  have b2 : 0 ≤ a2 ∧ a2 ≤ 255 := by simpa [Lit.wf, IntKind.min, IntKind.max, IntKind.signed, IntKind.bits] using w2
  clear hA0 hval0
  refine (walk a0 a1 a2 W b0.1 b0.2 b1.1 b1.2 b2.1 b2.2).mono fun e W' ⟨he, bel⟩ => ?_
  subst he
  exact ⟨_, rfl, _, _, _, [], _, [], hW', trodAll_mk1 (shut_bool Tryd.underlying4 _), (trodAll_cons_mk (shut_int Tryd.underlying5 w0) (trodAll_cons_mk (shut_int Tryd.underlying5 w1) (trodAll_cons_mk (shut_int Tryd.underlying5 w2) trodAll_mk0))), rfl, bel.frame _, fun h => by cases h⟩

theorem row_holds : Rows.MixedPairsSaid :=
  OpenClaim.holds_of_wide 5 Tryd.f5 rfl rfl rfl rfl rfl rfl rfl ⟨rfl, rfl, rfl, rfl, rfl⟩ rfl rfl rfl rfl rfl (by kernel_rfl) Tryd.func5 (by kernel_rfl)
    (of_decide_eq_true (by kernel_rfl)) (by unfold Func.isWrapper; first | (rw [if_pos (by decide +kernel)]; kernel_rfl) | (rw [if_neg (by decide +kernel)]; exact ⟨rfl, rfl⟩))
    (fun os started H enc _ => lifted os started H enc)

theorem proved : Rows.MixedPairsCardSaid :=
  Claim7.holds_tied_plain_at .later [] [.data, .data, .data, .data, .sentinel, .sentinel, .pinned] true (true, "894162bb662dbb9bbc7214303acd8c2af297c2ae42e7ec5e5cea64e1b3bfb4cd") true
    row_holds (fun _ h => by cases h) (by kernel_rfl) (fun _ h => by cases h) mixedPairs_row_tie rfl ⟨rfl, rfl⟩ (by kernel_rfl) rfl
    (fun f fn hf hfn => by
      obtain rfl : f = 5 := Option.some.inj ((show Tryd.prog.funcNamed "fascia/fascialaw10.MixedPairs" = some 5 by kernel_rfl).symm.trans hf) |>.symm
      obtain rfl : fn = Tryd.f5 := (Option.some.inj (Tryd.func5.symm.trans hfn)).symm
      exact ⟨by kernel_rfl, fun j t ht => by
        rw [Tryd.params5] at ht
        have hm : t ∈ [5, 5, 5] := by simpa using Array.mem_of_getElem? ht
        have hall : ([5, 5, 5].all fun u => !Tryd.prog.wantsStandIn u) = true := by kernel_rfl
        exact (show Tryd.prog.wantsStandIn t = false by simpa using List.all_eq_true.1 hall t hm)⟩)
    (by kernel_rfl)
end Go.Proofs.YtjpmecdjlodaoaaDoor.mixedPairs
