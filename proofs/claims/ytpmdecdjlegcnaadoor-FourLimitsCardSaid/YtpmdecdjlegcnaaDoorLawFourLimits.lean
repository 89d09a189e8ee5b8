/-
  FourLimits: whatever the address, how many parts, the part and the byte, a part that is one too great, a fifth part, an empty one, and one with another byte are refused: the law returns true.
  Conditions: those of the card (the variables that the row lists are laid as the program's text lays them).
-/
import Derived.Test.YtpmdecdjlegcnaaDoorFourV
import Derived.Deep.CutRange
import Derived.Test.YtpmdecdjlegcnaaDoorFrame
import Derived.Test.YtpmdecdjlegcnaaDoorTie
import Derived.Test.YtpmdecdjlegcnaaDoorCards
import Derived.Test.YtpmdecdjlegcnaaDoorFourP
import Derived.ProofKit
import Derived.Lay
import Derived.Stop.Joined
import Derived.SevenTiedAt
namespace Go.Proofs.YtpmdecdjlegcnaaDoor.fourLimits
open Go.ChangeShapes Go.WideShapes Go.ChangeAt Go.RowKit Fou
open Go.ChangeMaps (open_string shut_string)

set_option maxRecDepth 100000 in
set_option maxHeartbeats 4000000 in
theorem walk (a0 a1 a2 a3 : Int) (w : World) (h0 : 0 ≤ a0) (h0' : a0 ≤ 4294967295) (h1 : 0 ≤ a1) (h1' : a1 ≤ 255) (h2 : 0 ≤ a2) (h2' : a2 ≤ 255) (h3 : 0 ≤ a3) (h3' : a3 ≤ 255) (hp : PowIs w) :
    Calls Tryd.prog 6 #[.int .u32 a0, .int .u8 a1, .int .u8 a2, .int .u8 a3] w (fun e w' => e = .returned (.bool true) ∧ Below w.heap.size w w') := by
  obtain ⟨x, rfl⟩ := Int.eq_ofNat_of_zero_le h0
  obtain ⟨cm, rfl⟩ := Int.eq_ofNat_of_zero_le h3
  have hx : x < 4294967296 := by omega
  have HX := Lib.hid hx
  have HP := Lib.hid (fun w' (hB : Below w.heap.size w w') => hp.go hB)
  obtain ⟨n, hn⟩ : ∃ n : Nat, 1 + a1 % 4 = (n : Int) := ⟨(1 + a1 % 4).toNat, by omega⟩
  have hn1 : 1 ≤ n := by omega
  have hn4 : n ≤ 4 := by omega
  obtain ⟨k, hk⟩ : ∃ k : Nat, a2 % (n : Int) = (k : Int) := ⟨(a2 % (n : Int)).toNat, by
    have := Int.emod_nonneg a2 (by omega : (n : Int) ≠ 0)
    omega⟩
  have hkn : k < n := by
    have := Int.emod_lt_of_pos a2 (by omega : (0 : Int) < (n : Int))
    omega
  have hxi : (x : Int) < 4294967296 := by omega
  clear hp hx h0 h0' h3
  go_enter Tryd.func6, Tryd.ntmps6
  go_wp2_with fail
  go_loopg [26] n (fun m s26 wr => ∃ j : Nat, s26 = .int .i64 (j : Int) ∧ m = n - j ∧ j ≤ n ∧ Hid (LSt x k w.heap.size j wr) ∧ Below w.heap.size w wr)
  case atStart =>
    refine ⟨0, rfl, rfl, Nat.zero_le _, Lib.hid ⟨none, 0, ?_, (Boxed.new w 3 (.int .i64 (k : Int))).alloc _, World.ownsRow_nil _ _ _ _, by simp⟩, ((Below.refl _ w).alloc (Nat.le_refl _) _).alloc (by simp) _⟩
    have h := Boxed.new (w.alloc (.cells #[.int .i64 (k : Int)] 3)) 33 (.slice none 0 0)
    rw [World.size_alloc] at h
    exact h
  case round =>
    obtain ⟨j, rfl, rfl, hj, HL, hB⟩ := hrel
    clear hk
    by_cases hlt : j < n
    · obtain ⟨A, c, hb1, hb0, hO, hsz⟩ := HL.out
      have hc1 := hb1.cell
      have hf1 := hb1.frozen
      obtain ⟨y, hy⟩ : ∃ y, y = 8 * j := ⟨_, rfl⟩
      have HV := Lib.hid (lo_and x j y HX.out hy)
      have hyw : IntKind.i64.wrap (8 * (j : Int)) = (y : Int) := by
        have e : 8 * (j : Int) = (y : Int) := by omega
        rw [e]
        exact IntWalk.i64_in _ (by omega)
      have hy0 : (0 : Int) ≤ (y : Int) := by omega
      have hy1 : (y : Int) ≤ 24 := by omega
      have hy2 : (y : Int).toNat = y := by omega
      clear hy
      go_upto_region 7 with fail
      have hLl : w.heap.size + 1 < wr.heap.size := hb1.lt
      go_region_law (first
          | (go_simp; go_at_call 20; refine (Itoa_z _ (lo x j) HV.out (lo_lt _ _) wr.drew (HP.out _ hB.drew)).mono ?_; rintro e' w2 ⟨rfl, hb2⟩; have hc2 : w2.cell? ⟨w.heap.size + 1, 0, none⟩ = some (.slice A j c) := (hb2.cell (p := ⟨w.heap.size + 1, 0, none⟩) hLl).trans hc1; have hl2 : w.heap.size + 1 < w2.heap.size := Nat.lt_of_lt_of_le hLl hb2.size; have hc3 : (w2.alloc (.cells #[.string (bs (digs 10 (lo x j)))] 9)).cell? ⟨w.heap.size + 1, 0, none⟩ = some (.slice A j c) := (World.cell?_alloc_lt _ _ _ hl2).trans hc2; have hf3 : (w2.alloc (.cells #[.string (bs (digs 10 (lo x j)))] 9)).frozen? ⟨w.heap.size + 1, 0, none⟩ = false := (((Below.refl _ w2).alloc (Nat.le_refl _) (.cells #[.string (bs (digs 10 (lo x j)))] 9)).frozen (p := ⟨w.heap.size + 1, 0, none⟩) hl2).trans ((hb2.frozen (p := ⟨w.heap.size + 1, 0, none⟩) hLl).trans hf1))
          | (refine step_appS (w.heap.size + 2) _ rfl (.tmp 29) (.tmp 37) rfl (.slice A j c) j ((lows x j).map bs) rfl ((own_below (w := wr) (w1 := w2) hO ⟨hb2.os, hb2.tape, hb2.output, hb2.size, hb2.block⟩).alloc _) (by rw [World.size_alloc]; omega) _ 1 (bs (digs 10 (lo x j))) rfl (by rw [World.size_alloc]; exact row_new _ _ 9 [.string (bs (digs 10 (lo x j)))] rfl) (j + 1) rfl (by omega) ?_; intro A' c' w' hO' hB'; have hc4 : w'.cell? ⟨w.heap.size + 1, 0, none⟩ = some (.slice A j c) := (hB'.cell (p := ⟨w.heap.size + 1, 0, none⟩) (Nat.lt_succ_self _)).trans hc3; have hf4 : w'.frozen? ⟨w.heap.size + 1, 0, none⟩ = false := (hB'.frozen (p := ⟨w.heap.size + 1, 0, none⟩) (Nat.lt_succ_self _)).trans hf3)
          | fail)
      all_goals
        go_wp2_with fail
        go_roundg (n - (j + 1))
        case measure => omega
        case rel =>
          have b2 : Below wr.heap.size wr w2 := ⟨hb2.os, hb2.tape, hb2.output, hb2.size, hb2.block⟩
          have b3 : Below (w.heap.size + 2) wr w' := ((b2.alloc b2.size (.cells #[.string (bs (digs 10 (lo x j)))] 9)).mono hsz).trans hB'
          have hs3 : w.heap.size + 2 ≤ w'.heap.size := Nat.le_trans hsz b3.size
          refine ⟨j + 1, by go_num, rfl, by omega, Lib.hid (LSt_put hb1 hb0 b3 hO' hs3), ?_⟩
          exact (hB.trans (b3.mono (Nat.le_add_right _ _))).setCell (p := ⟨w.heap.size + 1, 0, none⟩) (Nat.le_add_right _ _) _
    · obtain rfl : n = j := by omega
      have hk1 : Boxed wr w.heap.size 3 (.int .i64 (k : Int)) := by obtain ⟨_, _, _, h0, _, _⟩ := HL.out; exact h0
      have hkc := hk1.cell
      have HXI := Lib.hid hxi
      have HB := Lib.hid hB
      clear hlt hj hxi hB hk1
      obtain ⟨m, hm⟩ : ∃ m, n = m + 1 := ⟨n - 1, by omega⟩
      have hnm : (n : Int) - 1 = (m : Int) := by omega
      have HM := Lib.hid hm
      clear hm
      obtain ⟨hr1, hr2⟩ := room_le n k hn1 hn4
      obtain ⟨R, hR⟩ : ∃ R, roomOf n k = R := ⟨_, rfl⟩
      rw [hR] at hr1 hr2
      have HRR := Lib.hid hR
      have HR1 := Lib.hid hr1
      have HR2 := Lib.hid hr2
      clear hR hr1 hr2
      go_upto_if 44 with fail
      go_cut [14] from 45 to 48 (fun s14 wx => s14 = .int .u64 (R : Int) ∧ wx = wr)
      case first =>
        clear HL HXI HB
        by_cases hkl : k = m
        · have hkb : ((k : Int) == (m : Int)) = true := by
            rw [beq_iff_eq, hkl]
          have hn14 : n = 1 ∨ n = 2 ∨ n = 3 ∨ n = 4 := by omega
          have HKL := Lib.hid hkl
          clear hkl
          rcases hn14 with rfl | rfl | rfl | rfl
          all_goals
            go_wp2_with fail
            go_meet
            refine ⟨?_, rfl⟩
            rw [← HRR.out]; unfold roomOf
            rw [if_pos (by rw [HKL.out]; exact HM.out.symm)]
            rfl
        · have hkb : ((k : Int) == (m : Int)) = false := by
            rw [beq_eq_false_iff_ne]
            omega
          have HKL := Lib.hid hkl
          clear hkl
          go_wp2_with fail
          go_meet
          refine ⟨?_, rfl⟩
          rw [← HRR.out]; unfold roomOf
          rw [if_neg (fun e => HKL.out (by have := HM.out; omega))]
          rfl
      case rest =>
        obtain ⟨rfl, hwx⟩ := hcut
        rename World => w0
        subst hwx
        have hr1 := HR1.out
        have hr2 := HR2.out
        have hR1 : (256 : Int) ≤ (R : Int) := by omega
        have hR2 : (R : Int) ≤ 4294967296 := by omega
        have hxi := HXI.out
        obtain ⟨S, hS⟩ : ∃ S, S = R + x := ⟨_, rfl⟩
        have hSi : (R : Int) + (x : Int) = (S : Int) := by omega
        have hS1 : (R : Int) + (x : Int) ≤ 8589934592 := by omega
        obtain ⟨q, hq⟩ : ∃ q, R = q + 1 := ⟨R - 1, by omega⟩
        have hqi : (R : Int) - 1 = (q : Int) := by omega
        have HSR := Lib.hid (show R ≤ S by omega)
        have HSS := Lib.hid (show S < 10000000000 by omega)
        have HRq := Lib.hid hq
        have HRS := Lib.hid (show R < 10000000000 by omega)
        clear hr1 hr2 hS hq
        go_wp2_with fail
        refine (FormatUint10_any R (by have := HRS.out; omega) _ (HP.out _ HB.out)).mono ?_
        rintro e w1 ⟨rfl, hb1⟩
        go_wp2_with fail
        refine (with_at HL.out hb1 hkn hn4 (bs (digs 10 R)) (digs_small HRS.out)).mono ?_
        rintro e w2 ⟨rfl, hb2⟩
        have hB2 := upB hb1 hb2
        go_wp2_with fail
        refine (none_with _ _ hn4 (digs_small HRS.out) (lim_none hn1 hn4 hkn (by rw [HRR.out]; exact Nat.le_refl _))).mono ?_
        rintro e w3 ⟨rfl, hb3⟩
        have hB3 := upB hB2 hb3
        clear hb1 hb2 hb3 hB2
        go_wp2_with fail
        refine (FormatUint10_any S (by have := HSS.out; omega) _ (HP.out _ (upB HB.out hB3))).mono ?_
        rintro e w4 ⟨rfl, hb4⟩
        have hB4 := upB hB3 hb4
        go_wp2_with fail
        refine (with_at HL.out hB4 hkn hn4 (bs (digs 10 S)) (digs_small HSS.out)).mono ?_
        rintro e w5 ⟨rfl, hb5⟩
        have hB5 := upB hB4 hb5
        go_wp2_with fail
        refine (none_with _ _ hn4 (digs_small HSS.out) (lim_none hn1 hn4 hkn (by rw [HRR.out]; exact HSR.out))).mono ?_
        rintro e w6 ⟨rfl, hb6⟩
        have hB6 := upB hB5 hb6
        clear hb4 hb5 hb6 hB3 hB4 hB5
        go_wp2_with fail
        refine (with_at HL.out hB6 hkn hn4 ⟨#[57, 57, 57, 57, 57, 57, 57, 57, 57, 57, 57, 57, 57, 57, 57, 57, 57, 57, 57, 57, 57, 57, 57]⟩ (by decide)).mono ?_
        rintro e w7 ⟨rfl, hb7⟩
        have hB7 := upB hB6 hb7
        go_wp2_with fail
        refine (none_with ⟨#[57, 57, 57, 57, 57, 57, 57, 57, 57, 57, 57, 57, 57, 57, 57, 57, 57, 57, 57, 57, 57, 57, 57]⟩ _ hn4 (by decide) (nines_none hn1 hn4 hkn)).mono ?_
        rintro e w8 ⟨rfl, hb8⟩
        have hB8 := upB hB7 hb8
        clear hb7 hb8 hB6 hB7
        go_wp2_with fail
        refine (FormatUint10_any q (by have := HRS.out; have := HRq.out; omega) _ (HP.out _ (upB HB.out hB8))).mono ?_
        rintro e w9 ⟨rfl, hb9⟩
        have hB9 := upB hB8 hb9
        go_wp2_with fail
        refine (with_at HL.out hB9 hkn hn4 (bs (digs 10 q)) (digs_small (by have := HRS.out; have := HRq.out; omega))).mono ?_
        rintro e w10 ⟨rfl, hb10⟩
        have hB10 := upB hB9 hb10
        go_wp2_with fail
        refine (parse_with _ hn1 hn4 hkn (by rw [HRR.out]; exact HRq.out)).mono ?_
        rintro e w11 ⟨y, rfl, hb11⟩
        have hB11 := upB hB10 hb11
        clear hb9 hb10 hb11 hB8 hB9 hB10
        go_upto_region 18 with fail
        clear hR1 hR2 hxi hSi hS1 hqi HSR HSS HRq HRS HRR HR1 HR2
        obtain ⟨A, c, hL1, hL0, hLo, hLs⟩ := HL.out
        have kl : Boxed w11 w.heap.size 3 (.int .i64 (k : Int)) := (hB11.block _ hL0.lt).trans hL0
        have klc := kl.cell
        have HKL := Lib.hid kl
        have HLo := Lib.hid hLo
        have HL1 := Lib.hid hL1
        clear kl hLo hL1 hL0 hLs
        go_cut [100] from 83 to 99 (fun s100 wx => s100 = .bool false ∧ Below w0.heap.size w0 wx)
        case first =>
          have hc3 : (n = 1 ∨ k + 1 < n) ∨ (2 ≤ n ∧ k = m) := by have := HM.out; omega
          rcases hc3 with hc | ⟨hc1, hc2⟩
          · have HN := Lib.hid (empty_none (x := x) hn1 hn4 hkn hc)
            have HW := with_at HL.out hB11 hkn hn4 ⟨#[]⟩ (by decide)
            have HW := Lib.hid HW
            rcases hc with hc | hc
            · have hg : ¬ (1 : Int) < (n : Int) := by omega
              have hn0 : ((n : Int) == 1) = true := by
                rw [beq_iff_eq]
                omega
              clear hc
              go_wp2_with fail
              refine HW.out.mono ?_
              rintro e w12 ⟨rfl, hb12⟩
              go_wp2_with fail
              refine (none_with ⟨#[]⟩ _ hn4 (by decide) HN.out).mono ?_
              rintro e w13 ⟨rfl, hb13⟩
              go_wp2_with fail
              go_meet
              exact ⟨rfl, upB (upB hB11 hb12) hb13⟩
            · have hg : (1 : Int) < (n : Int) := by omega
              have hkm : (k : Int) < (m : Int) := by have := HM.out; omega
              go_wp2_with fail
              refine HW.out.mono ?_
              rintro e w12 ⟨rfl, hb12⟩
              go_wp2_with fail
              refine (none_with ⟨#[]⟩ _ hn4 (by decide) HN.out).mono ?_
              rintro e w13 ⟨rfl, hb13⟩
              go_wp2_with fail
              go_meet
              exact ⟨rfl, upB (upB hB11 hb12) hb13⟩
          · have hg : (1 : Int) < (n : Int) := by omega
            have hkm : ¬ (k : Int) < (m : Int) := by omega
            have hn0 : ((n : Int) == 1) = false := by
              rw [beq_eq_false_iff_ne]
              omega
            clear hc1 hc2
            go_wp2_with fail
            go_meet
            exact ⟨rfl, hB11⟩
        case rest =>
          obtain ⟨rfl, hB12⟩ := hcut
          rename World => w12
          clear hB11 klc
          obtain ⟨z, hz⟩ : ∃ z, Lib.indexByte (dl alphas) (UInt8.ofNat cm) = z := ⟨_, rfl⟩
          have HZ := Lib.hid hz
          have hcm : cm < 256 := by omega
          have HCM := Lib.hid hcm
          clear hz hcm
          go_upto_region 20 with fail
          go_cut [113] from 101 to 112 (fun s113 wx => s113 = .bool false ∧ Below w0.heap.size w0 wx)
          case first =>
            go_wp2_with fail
            refine (IndexByte_z alphas cm z HZ.out _).mono ?_
            rintro e w' ⟨rfl, rfl⟩
            by_cases hzn : z < 0
            · have hzd : decide (z < 0) = true := decide_eq_true hzn
              have hcb := fun o => conv_byte (cm : Int) (w'.alloc o)
              have hcb0 := conv_byte (cm : Int) w'
              have hs1 := str_size
              have HN := Lib.hid (none_one (x := x) hn1 hn4 hkn HCM.out (by rw [HZ.out]; exact hzn))
              clear hzn HXI HLo HL1 HKL HX
              go_wp2_with fail
              refine (with_one HL.out hB12 hkn hn4 cm).mono ?_
              rintro e w14 ⟨rfl, hb14⟩
              go_wp2_with fail
              refine (HN.out _).mono ?_
              rintro e w15 ⟨rfl, hb15⟩
              go_wp2_with fail
              go_meet
              exact ⟨rfl, upB (upB (hB12.alloc hB12.size _) hb14) hb15⟩
            · have hzd : decide (z < 0) = false := decide_eq_false hzn
              clear hzn HL HB HXI HLo HL1 HKL
              go_wp2_with fail
              go_meet
              exact ⟨rfl, hB12⟩
          case rest =>
            obtain ⟨rfl, hB13⟩ := hcut
            rename World => w13
            clear hB12
            go_upto_region 22 with fail
            have hl1 : Boxed w13 (w.heap.size + 1) 33 (.slice A n c) := (hB13.block _ HL1.out.lt).trans HL1.out
            have hl1l := hl1.lt
            have hc0 : (w13.alloc (.cells #[] 9)).cell? ⟨w.heap.size + 1, 0, none⟩ = some (.slice A n c) := (World.cell?_alloc_lt _ _ _ hl1l).trans hl1.cell
            have HO0 := Lib.hid (show (w13.alloc (.cells #[] 9)).ownsRow w13.heap.size 9 1 (.slice (some ⟨w13.heap.size, 0, none⟩) 0 0) 0 (sc []) from World.ownsRow_lit w13 #[] 0 (Nat.le_refl _) (by unfold maxLen; omega) rfl)
            have HR0 := Lib.hid (show Row (w13.alloc (.cells #[] 9)) (w13.alloc (.cells #[] 9)).heap.size A (sc ((lows x n).map bs)) from ((((own_row HLo.out).below hB13).mono hB13.size).alloc (Nat.le_refl _) _).mono (by simp))
            have HB0 := Lib.hid ((Below.refl w13.heap.size w13).alloc (Nat.le_refl _) (.cells #[] 9))
            have HLn := Lib.hid (show ((lows x n).map bs).length = n by rw [List.length_map, lows_len])
            obtain ⟨M, hM⟩ : ∃ M, n + 4 = M := ⟨_, rfl⟩
            have HMM := Lib.hid hM
            have HBw := Lib.hid (upB HB.out hB13)
            clear hl1 hl1l HL HXI HLo HL1 HKL HX HB hB13
            go_wp2_with (first
              | (at_builtin; refine wpList_appR w13.heap.size _ rfl (.tmp 114) (.tmp 115) rfl _ 0 n [] ((lows x n).map bs) rfl HO0.out (by simp) A n c rfl HLn.out HR0.out (by omega) (by omega) ?_; intro A1 c1 w14 hO1 hB1; have HO1 := Lib.hid hO1; have HB1 := Lib.hid hB1; clear hO1 hB1)
              | (at_builtin; refine wpList_appR w13.heap.size _ rfl (.tmp 116) (.tmp 117) rfl _ n M ([] ++ (lows x n).map bs) onesT rfl (HO1.out.alloc _) (by have := HB1.out.size; simp at this ⊢; omega) (some ⟨w14.heap.size, 0, none⟩) 4 4 rfl rfl (by rw [World.size_alloc]; exact row_new _ _ 9 (sc onesT) rfl) HMM.out (by omega) ?_; intro A2 c2 w15 hO2 hB2; have HO2 := Lib.hid hO2; have HB2 := Lib.hid hB2; clear hO2 hB2)
              | fail)
            refine (join_long (x := x) hn4 HMM.out HO2.out).mono ?_
            rintro e w16 ⟨rfl, hb16⟩
            have hB15 : Below w13.heap.size w13 w15 := below_ones rfl HB0.out HB1.out HB2.out
            have hB16 := upB (upB HBw.out hB15) hb16
            clear hB15 hb16 HB0 HB1 HB2 HO2 HO1 HO0 HR0 HBw
            go_wp2_with fail
            refine (none_long (x := x) hn1 hn4 _).mono ?_
            rintro e w17 ⟨rfl, hb17⟩
            have hB17 := upB hB16 hb17
            go_wp2_with fail
            refine (awake_any _ (HP.out _ hB17)).mono ?_
            rintro e w18 ⟨rfl, hb18⟩
            go_wp2_with fail
            go_ret
            exact ⟨rfl, upB hB17 hb18⟩

/-! From the walk to the given statement. -/
set_option linter.unusedVariables false
theorem own : ownKnob Tryd.prog.godebug = none := by kernel_rfl
theorem laidOut : laidOutB Tryd.prog = true := by kernel_rfl
set_option maxRecDepth 100000 in
theorem lifted (os : Os) (started : os.Started) (H : Type) (enc : TypeId × Value → H) :
    ReturnsInHanded {} Tryd.checked os 6 .any (fun w args => (Rows.fourLimitsSpec.pre enc Tryd.prog Tryd.f6 [] false w args ∧ laidMetH Tryd.prog Rows.fourLimitsRow.laid w) ∧ sizedMet enc Tryd.prog Tryd.f6 (OpenSpec.ofChange Rows.fourLimitsSpec) false w args)
      (Rows.fourLimitsSpec.post enc Tryd.prog Tryd.f6 false true false false) := by
  refine returnsInHanded_of_change_and (C := Tryd.checked) (X := fun w _ => laidMetH Tryd.prog Rows.fourLimitsRow.laid w) (fun _ _ _ hh h => h.of_heap hh) own started (by kernel_rfl) Tryd.func6
    (ChangeSpec.witness_shaped (enc := enc) (C := Tryd.checked) (os := os) (X := fun w _ => laidMetH Tryd.prog Rows.fourLimitsRow.laid w) false (World.laidAll Tryd.prog os Rows.fourLimitsRow.laid) #[.int .u32 0, .int .u8 0, .int .u8 0, .int .u8 0] 8 (World.laidAll_os _ _ _)
      (World.shaped_of_ZipB (by kernel_rfl) (by kernel_rfl)) (by kernel_rfl) (by kernel_rfl) (by kernel_rfl)
      (by rw [MakeChecks.laidMetH_plain _ _ _ (by kernel_rfl)]; exact laidMet_laidAll _ (by kernel_rfl) (by kernel_rfl))) ?_
  intro W base args ds gs before hval0 hW _ _ hL _
  have hval : ∀ (j : Nat) t v, Tryd.f6.params[j]? = some t → args[j]? = some v → Value.okWide Tryd.prog W .any base t v := hval0
  have hW' := hW
  obtain ⟨p, q, hA0, hV, rfl, _, _⟩ := hW
  have hA : DataW.TrodAll enc Tryd.prog W 0 (fun _ => true) true Tryd.f6.params.toList args.toList ds p := hA0
  rw [Tryd.params6] at hA hval
  obtain ⟨v0, vs0, d0, ds0, p0, q0, hargs, rfl, rfl, h0, r0⟩ := trodAll_cons hA
  obtain ⟨v1, vs1, d1, ds1, p1, q1, rfl, rfl, rfl, h1, r1⟩ := trodAll_cons r0
  obtain ⟨v2, vs2, d2, ds2, p2, q2, rfl, rfl, rfl, h2, r2⟩ := trodAll_cons r1
  obtain ⟨v3, vs3, d3, ds3, p3, q3, rfl, rfl, rfl, h3, r3⟩ := trodAll_cons r2
  obtain ⟨rfl, rfl, rfl⟩ := trodAll_nil r3
  obtain rfl : args = #[v0, v1, v2, v3] := by cases args; simp_all
  obtain ⟨rfl, rfl⟩ := trodVars_none hV
  obtain ⟨a0, rfl, rfl, rfl, w0⟩ := open_int Tryd.underlying22 (hval 0 22 v0 rfl rfl) h0
  have b0 : 0 ≤ a0 ∧ a0 ≤ 4294967295 := by simpa [Lit.wf, IntKind.min, IntKind.max, IntKind.signed, IntKind.bits] using w0
  obtain ⟨a1, rfl, rfl, rfl, w1⟩ := open_int Tryd.underlying5 (hval 1 5 v1 rfl rfl) h1
  have b1 : 0 ≤ a1 ∧ a1 ≤ 255 := by simpa [Lit.wf, IntKind.min, IntKind.max, IntKind.signed, IntKind.bits] using w1
  obtain ⟨a2, rfl, rfl, rfl, w2⟩ := open_int Tryd.underlying5 (hval 2 5 v2 rfl rfl) h2
  have b2 : 0 ≤ a2 ∧ a2 ≤ 255 := by simpa [Lit.wf, IntKind.min, IntKind.max, IntKind.signed, IntKind.bits] using w2
  obtain ⟨a3, rfl, rfl, rfl, w3⟩ := open_int Tryd.underlying5 (hval 3 5 v3 rfl rfl) h3
  have b3 : 0 ≤ a3 ∧ a3 ≤ 255 := by simpa [Lit.wf, IntKind.min, IntKind.max, IntKind.signed, IntKind.bits] using w3
  clear hA0 hval0
  rw [MakeChecks.laidMetH_plain _ _ _ (by kernel_rfl)] at hL
  have hPow : PowIs W := powIs_of_reads (Lib.laidMet.reads hL (.tail _ (.tail _ (.head _))))
  refine (walk a0 a1 a2 a3 W b0.1 b0.2 b1.1 b1.2 b2.1 b2.2 b3.1 b3.2 hPow).mono fun e W' ⟨he, bel⟩ => ?_
  subst he
  exact ⟨_, rfl, _, _, _, [], _, [], hW', trodAll_mk1 (shut_bool Tryd.underlying4 _), (trodAll_cons_mk (shut_int Tryd.underlying22 w0) (trodAll_cons_mk (shut_int Tryd.underlying5 w1) (trodAll_cons_mk (shut_int Tryd.underlying5 w2) (trodAll_cons_mk (shut_int Tryd.underlying5 w3) trodAll_mk0)))), rfl, bel.frame _, fun h => by cases h⟩

theorem row_holds : Rows.FourLimitsSaid :=
  OpenClaim.holds_of_wide 6 Tryd.f6 rfl rfl rfl rfl rfl rfl rfl ⟨rfl, rfl, rfl, rfl, rfl⟩ rfl rfl rfl rfl rfl (by kernel_rfl) Tryd.func6 (by kernel_rfl)
    (of_decide_eq_true (by kernel_rfl)) (by unfold Func.isWrapper; first | (rw [if_pos (by decide +kernel)]; kernel_rfl) | (rw [if_neg (by decide +kernel)]; exact ⟨rfl, rfl⟩))
    (fun os started H enc _ => lifted os started H enc)

theorem proved : Rows.FourLimitsCardSaid :=
  Claim7.holds_tied_plain_at .later [] [.data, .data, .data] true (true, "8c916d87dac566d43f12e0c8e58974611998e2cc655645d3f4376929a58bf9d1") false
    row_holds (fun _ h => by cases h) (by kernel_rfl) (fun _ h => by cases h) fourLimits_row_tie rfl ⟨rfl, rfl⟩ (by kernel_rfl) rfl
    (fun f fn hf hfn => by
      obtain rfl : f = 6 := Option.some.inj ((show Tryd.prog.funcNamed "fascia/fascialaw12.FourLimits" = some 6 by kernel_rfl).symm.trans hf) |>.symm
      obtain rfl : fn = Tryd.f6 := (Option.some.inj (Tryd.func6.symm.trans hfn)).symm
      exact ⟨by kernel_rfl, fun j t ht => by
        rw [Tryd.params6] at ht
        have hm : t ∈ [22, 5, 5, 5] := by simpa using Array.mem_of_getElem? ht
        have hall : ([22, 5, 5, 5].all fun u => !Tryd.prog.wantsStandIn u) = true := by kernel_rfl
        exact (show Tryd.prog.wantsStandIn t = false by simpa using List.all_eq_true.1 hall t hm)⟩)
    (by kernel_rfl)
end Go.Proofs.YtpmdecdjlegcnaaDoor.fourLimits
