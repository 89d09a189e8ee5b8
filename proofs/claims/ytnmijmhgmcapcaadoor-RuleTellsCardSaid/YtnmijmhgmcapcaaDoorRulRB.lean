/-
  fasciaref09: Bidi, Check.
-/
import Derived.Test.YtnmijmhgmcapcaaDoorRulRA
namespace Go.Proofs.YtnmijmhgmcapcaaDoor.Rul
open Go.RowKit Ucd

theorem hs_in {c : Int} (h : 0 ≤ c ∧ c ≤ 22) (h1 : hs 9145 c = true) : hs 64 c = false := by
  obtain ⟨k, rfl⟩ : ∃ k : Nat, c = (k : Int) := ⟨c.toNat, by omega⟩
  have : ∀ k : Nat, k < 23 → hs 9145 (k : Int) = true → hs 64 (k : Int) = false := by decide +kernel
  exact this k (by omega) h1
theorem no_six {l : List Int} (h : l.all (hb 9145) = true) : l.any (hb 64) = false := by
  rw [List.any_eq_false]
  intro r hr
  have := List.all_eq_true.1 h r hr
  rw [show hb 64 r = false from hs_in (bc_bd r) this]
  decide
theorem upR' {w w' : World} {A : Option Addr} {xs : List Value} (h : Row w w.heap.size A xs) (hb : Below w.heap.size w w') : Row w' w'.heap.size A xs := (h.below hb).mono hb.size
theorem s70_lit (l : List Int) (A : Option Addr) (n cap : Nat) (W : World) (hn : l.length = n) (hn1 : n ≤ 1000000) (hC : C32 l) (hr : Row W W.heap.size A (cl .i32 l)) : Calls Tryd.prog 18 #[.slice A n cap, .slice (some ⟨W.heap.size, 0, none⟩) 3 3] (W.alloc (.cells #[.int .u8 1, .int .u8 2, .int .u8 6] 5)) (IsB (l.any (hb 70)) W) := by
  refine (some_any l [1, 2, 6] A n cap _ 3 3 (W.alloc (.cells #[.int .u8 1, .int .u8 2, .int .u8 6] 5)) hn hn1 hC (upR' hr (upA W _)) rfl (by decide) (row_new' W (cl .u8 [1, 2, 6]) 5)).mono ?_
  rintro e w' ⟨rfl, hB⟩
  have e : sb [1, 2, 6] = hb 70 := funext fun r => ((hs_all (bc_bd r)).2.2.1).symm
  rw [e]
  exact ⟨rfl, upB (upA W _) hB⟩
theorem a9214_lit (l : List Int) (A : Option Addr) (n cap : Nat) (W : World) (hn : l.length = n) (hn1 : n ≤ 1000000) (hC : C32 l) (hr : Row W W.heap.size A (cl .i32 l)) : Calls Tryd.prog 23 #[.slice A n cap, .slice (some ⟨W.heap.size, 0, none⟩) 10 10] (W.alloc (.cells #[.int .u8 1, .int .u8 2, .int .u8 6, .int .u8 3, .int .u8 4, .int .u8 7, .int .u8 5, .int .u8 13, .int .u8 9, .int .u8 8] 5)) (IsB (l.all (hb 9214)) W) := by
  refine (allR_any l [1, 2, 6, 3, 4, 7, 5, 13, 9, 8] A n cap _ 10 10 (W.alloc (.cells #[.int .u8 1, .int .u8 2, .int .u8 6, .int .u8 3, .int .u8 4, .int .u8 7, .int .u8 5, .int .u8 13, .int .u8 9, .int .u8 8] 5)) hn hn1 hC (upR' hr (upA W _)) rfl (by decide) (row_new' W (cl .u8 [1, 2, 6, 3, 4, 7, 5, 13, 9, 8]) 5)).mono ?_
  rintro e w' ⟨rfl, hB⟩
  have e : sb [1, 2, 6, 3, 4, 7, 5, 13, 9, 8] = hb 9214 := funext fun r => ((hs_all (bc_bd r)).2.2.2.2.2.2.1).symm
  rw [e]
  exact ⟨rfl, upB (upA W _) hB⟩
theorem e78_lit (l : List Int) (A : Option Addr) (n cap : Nat) (W : World) (hn : l.length = n) (hn1 : n ≤ 1000000) (hC : C32 l) (hr : Row W W.heap.size A (cl .i32 l)) : Calls Tryd.prog 24 #[.slice A n cap, .slice (some ⟨W.heap.size, 0, none⟩) 4 4] (W.alloc (.cells #[.int .u8 1, .int .u8 2, .int .u8 3, .int .u8 6] 5)) (IsB (hs 78 (lastC (l.map bc))) W) := by
  refine (endsR_any l [1, 2, 3, 6] (by decide) A n cap _ 4 4 (W.alloc (.cells #[.int .u8 1, .int .u8 2, .int .u8 3, .int .u8 6] 5)) hn hn1 hC (upR' hr (upA W _)) rfl (by decide) (row_new' W (cl .u8 [1, 2, 3, 6]) 5)).mono ?_
  rintro e w' ⟨rfl, hB⟩
  have e : S [1, 2, 3, 6] (lastC (l.map bc)) = hs 78 (lastC (l.map bc)) := ((hs_all (lastC_bd _ (map_bd l))).2.2.2.2.2.2.2.1).symm
  rw [e]
  exact ⟨rfl, upB (upA W _) hB⟩
theorem s8_lit (l : List Int) (A : Option Addr) (n cap : Nat) (W : World) (hn : l.length = n) (hn1 : n ≤ 1000000) (hC : C32 l) (hr : Row W W.heap.size A (cl .i32 l)) : Calls Tryd.prog 18 #[.slice A n cap, .slice (some ⟨W.heap.size, 0, none⟩) 1 1] (W.alloc (.cells #[.int .u8 3] 5)) (IsB (l.any (hb 8)) W) := by
  refine (some_any l [3] A n cap _ 1 1 (W.alloc (.cells #[.int .u8 3] 5)) hn hn1 hC (upR' hr (upA W _)) rfl (by decide) (row_new' W (cl .u8 [3]) 5)).mono ?_
  rintro e w' ⟨rfl, hB⟩
  have e : sb [3] = hb 8 := funext fun r => ((hs_all (bc_bd r)).2.2.2.1).symm
  rw [e]
  exact ⟨rfl, upB (upA W _) hB⟩
theorem s64_lit (l : List Int) (A : Option Addr) (n cap : Nat) (W : World) (hn : l.length = n) (hn1 : n ≤ 1000000) (hC : C32 l) (hr : Row W W.heap.size A (cl .i32 l)) : Calls Tryd.prog 18 #[.slice A n cap, .slice (some ⟨W.heap.size, 0, none⟩) 1 1] (W.alloc (.cells #[.int .u8 6] 5)) (IsB (l.any (hb 64)) W) := by
  refine (some_any l [6] A n cap _ 1 1 (W.alloc (.cells #[.int .u8 6] 5)) hn hn1 hC (upR' hr (upA W _)) rfl (by decide) (row_new' W (cl .u8 [6]) 5)).mono ?_
  rintro e w' ⟨rfl, hB⟩
  have e : sb [6] = hb 64 := funext fun r => ((hs_all (bc_bd r)).2.2.2.2.1).symm
  rw [e]
  exact ⟨rfl, upB (upA W _) hB⟩
theorem a9145_lit (l : List Int) (A : Option Addr) (n cap : Nat) (W : World) (hn : l.length = n) (hn1 : n ≤ 1000000) (hC : C32 l) (hr : Row W W.heap.size A (cl .i32 l)) : Calls Tryd.prog 23 #[.slice A n cap, .slice (some ⟨W.heap.size, 0, none⟩) 8 8] (W.alloc (.cells #[.int .u8 0, .int .u8 3, .int .u8 4, .int .u8 7, .int .u8 5, .int .u8 13, .int .u8 9, .int .u8 8] 5)) (IsB (l.all (hb 9145)) W) := by
  refine (allR_any l [0, 3, 4, 7, 5, 13, 9, 8] A n cap _ 8 8 (W.alloc (.cells #[.int .u8 0, .int .u8 3, .int .u8 4, .int .u8 7, .int .u8 5, .int .u8 13, .int .u8 9, .int .u8 8] 5)) hn hn1 hC (upR' hr (upA W _)) rfl (by decide) (row_new' W (cl .u8 [0, 3, 4, 7, 5, 13, 9, 8]) 5)).mono ?_
  rintro e w' ⟨rfl, hB⟩
  have e : sb [0, 3, 4, 7, 5, 13, 9, 8] = hb 9145 := funext fun r => ((hs_all (bc_bd r)).2.2.2.2.2.2.2.2.1).symm
  rw [e]
  exact ⟨rfl, upB (upA W _) hB⟩
theorem e9_lit (l : List Int) (A : Option Addr) (n cap : Nat) (W : World) (hn : l.length = n) (hn1 : n ≤ 1000000) (hC : C32 l) (hr : Row W W.heap.size A (cl .i32 l)) : Calls Tryd.prog 24 #[.slice A n cap, .slice (some ⟨W.heap.size, 0, none⟩) 2 2] (W.alloc (.cells #[.int .u8 0, .int .u8 3] 5)) (IsB (hs 9 (lastC (l.map bc))) W) := by
  refine (endsR_any l [0, 3] (by decide) A n cap _ 2 2 (W.alloc (.cells #[.int .u8 0, .int .u8 3] 5)) hn hn1 hC (upR' hr (upA W _)) rfl (by decide) (row_new' W (cl .u8 [0, 3]) 5)).mono ?_
  rintro e w' ⟨rfl, hB⟩
  have e : S [0, 3] (lastC (l.map bc)) = hs 9 (lastC (l.map bc)) := ((hs_all (lastC_bd _ (map_bd l))).2.2.2.2.2.2.2.2.2).symm
  rw [e]
  exact ⟨rfl, upB (upA W _) hB⟩
set_option maxRecDepth 100000 in
set_option maxHeartbeats 1000000 in
theorem RefBidi_any (l : List Int) (A : Option Addr) (n c : Nat) (w : World) (hn : l.length = n) (hn1 : n ≤ 1000000) (hC : C32 l) (hr : Row w w.heap.size A (cl .i32 l)) : Calls Tryd.prog 9 #[.slice A n c] w (IsB (bid l) w) := by
  have HI := Lib.hid (s70_lit l A n c w hn hn1 hC hr)
  rw [any_hb] at HI
  unfold bid bidC
  generalize (l.map bc).any (hs 70) = q at HI ⊢
  clear hn hr hC
  go_enter Tryd.func9, Tryd.ntmps9
  go_wp2_with (first | (go_at_call 18; refine HI.out.mono ?_; rintro e w1 ⟨rfl, hB1⟩) | fail)
  go_ret
  exact ⟨rfl, hB1⟩
set_option maxRecDepth 100000 in
set_option maxHeartbeats 4000000 in
theorem RefCheck_any (l : List Int) (A : Option Addr) (n c : Nat) (w : World) (hn : l.length = n) (hn1 : n ≤ 1000000) (hC : C32 l) (hr : Row w w.heap.size A (cl .i32 l)) : Calls Tryd.prog 11 #[.slice A n c] w (Tells (.int .u8 (chk l)) w) := by
  by_cases h0 : n = 0
  · subst h0
    obtain rfl : l = [] := List.length_eq_zero_iff.1 hn
    show Calls _ _ _ _ (Tells (.int .u8 9) w)
    clear hn hr hC
    go_enter Tryd.func11, Tryd.ntmps11
    go_wp2_with fail
    go_ret
    exact ⟨rfl, Below.refl _ _⟩
  · have hnz : (0 : Int) < (n : Int) := by omega
    have hne : ((n : Int) == 0) = false := by simp; omega
    obtain ⟨b, o, rfl, hb', hcc⟩ := hr.at_ (by simp; omega)
    have c0 := row_cell hcc 0 (by omega)
    rw [Nat.add_zero] at c0
    have hc := hC _ (mems (l := l) (i := 0) (by omega))
    have HF6 : Hid (fstB 6 l = hs 6 (bc l[0]!)) := Lib.hid (by
      cases l with
      | nil => simp at hn; omega
      | cons r t => rfl)
    have HF1 : Hid (fstB 1 l = hs 1 (bc l[0]!)) := Lib.hid (by
      cases l with
      | nil => simp at hn; omega
      | cons r t => rfl)
    have HK := Lib.hid (fun w => RefClass_any l[0]! hc.1 hc.2 w)
    have K6 := Lib.hid (@chk_6 l)
    have K1 := Lib.hid (@chk_1 l)
    have K9 := Lib.hid (@chk_9 l)
    rw [HF6.out] at K6 K1 K9
    rw [HF1.out] at K1 K9
    have A6 := Lib.hid (hs_all (bc_bd l[0]!))
    have Ha9214 := Lib.hid (fun W (h : Below w.heap.size w W) => a9214_lit l _ n c W hn hn1 hC (upR' hr h))
    have He78 := Lib.hid (fun W (h : Below w.heap.size w W) => e78_lit l _ n c W hn hn1 hC (upR' hr h))
    have Hs8 := Lib.hid (fun W (h : Below w.heap.size w W) => s8_lit l _ n c W hn hn1 hC (upR' hr h))
    have Hs64 := Lib.hid (fun W (h : Below w.heap.size w W) => s64_lit l _ n c W hn hn1 hC (upR' hr h))
    have Ha9145 := Lib.hid (fun W (h : Below w.heap.size w W) => a9145_lit l _ n c W hn hn1 hC (upR' hr h))
    have He9 := Lib.hid (fun W (h : Below w.heap.size w W) => e9_lit l _ n c W hn hn1 hC (upR' hr h))
    have V0 := Lib.hid (@vio_10 9214 78 l)
    have V1 := Lib.hid (@vio_11 9214 78 l)
    have V2 := Lib.hid (@vio_x 9214 78 l)
    have U0 := Lib.hid (@vio_10 9145 9 l)
    have U1 := Lib.hid (@vio_11 9145 9 l)
    have U2 := Lib.hid (@vio_x 9145 9 l)
    have N6 := Lib.hid (@no_six l)
    generalize chk l = v at K6 K1 K9 ⊢
    generalize vio 9214 78 (l.map bc) = v6 at K6 V0 V1 V2
    generalize vio 9145 9 (l.map bc) = v1 at K1 U0 U1 U2
    generalize l.all (hb 9214) = q1 at Ha9214 V0 V1 V2
    generalize hs 78 (lastC (l.map bc)) = q2 at He78 V1 V2
    generalize l.any (hb 8) = q3 at Hs8 V2 U2
    generalize l.any (hb 64) = q4 at Hs64 V2 U2 N6
    generalize l.all (hb 9145) = p1 at Ha9145 U0 U1 U2 N6
    generalize hs 9 (lastC (l.map bc)) = p2 at He9 U1 U2
    generalize l[0]! = r at c0 HK K6 K1 K9 A6
    have hbd := bc_bd r
    generalize bc r = z at HK K6 K1 K9 A6 hbd
    clear hn hcc hC hc HF6 HF1 hr
    by_cases hz : z = 1 ∨ z = 2
    · obtain rfl : v = v6 := K6.out (by rw [A6.out.1]; rcases hz with rfl | rfl <;> rfl)
      clear K6 K1 K9 A6 U0 U1 U2 N6 Ha9145 He9
      have HALL := Ha9214
      have HEND := He78
      clear Ha9214 He78
      rcases hz with rfl | rfl
      · cases q1 with
        | false =>
          obtain rfl := V0.out rfl
          clear V1 V2
          go_enter Tryd.func11, Tryd.ntmps11
          go_wp2_with (first
            | (go_at_call 22; refine (HK.out _).mono ?_; rintro e w1 ⟨rfl, hB1⟩)
            | (go_at_call 23; refine (HALL.out _ hB1).mono ?_; rintro e w2 ⟨rfl, hB2⟩; have hC2 := upB hB1 hB2)
            | (go_at_call 24; refine (HEND.out _ hC2).mono ?_; rintro e w3 ⟨rfl, hB3⟩; have hC3 := upB hC2 hB3)
            | (go_at_call 18; refine (Hs64.out _ hC4).mono ?_; rintro e w5 ⟨rfl, hB5⟩; have hC5 := upB hC4 hB5)
            | (go_at_call 18; refine (Hs8.out _ hC3).mono ?_; rintro e w4 ⟨rfl, hB4⟩; have hC4 := upB hC3 hB4)
            | fail)
          go_ret
          exact ⟨rfl, hC2⟩
        | true =>
          have V1' := Lib.hid (V1.out rfl)
          have V2' := Lib.hid (V2.out rfl)
          clear V0 V1 V2
          cases q2 with
          | false =>
            obtain rfl := V1'.out rfl
            clear V2'
            go_enter Tryd.func11, Tryd.ntmps11
            go_wp2_with (first
              | (go_at_call 22; refine (HK.out _).mono ?_; rintro e w1 ⟨rfl, hB1⟩)
              | (go_at_call 23; refine (HALL.out _ hB1).mono ?_; rintro e w2 ⟨rfl, hB2⟩; have hC2 := upB hB1 hB2)
              | (go_at_call 24; refine (HEND.out _ hC2).mono ?_; rintro e w3 ⟨rfl, hB3⟩; have hC3 := upB hC2 hB3)
              | (go_at_call 18; refine (Hs64.out _ hC4).mono ?_; rintro e w5 ⟨rfl, hB5⟩; have hC5 := upB hC4 hB5)
              | (go_at_call 18; refine (Hs8.out _ hC3).mono ?_; rintro e w4 ⟨rfl, hB4⟩; have hC4 := upB hC3 hB4)
              | fail)
            go_ret
            exact ⟨rfl, hC3⟩
          | true =>
            have V3 := Lib.hid (V2'.out rfl)
            clear V1' V2'
            cases q3 with
            | false =>
              obtain rfl : v = 0 := V3.out
              go_enter Tryd.func11, Tryd.ntmps11
              go_wp2_with (first
                | (go_at_call 22; refine (HK.out _).mono ?_; rintro e w1 ⟨rfl, hB1⟩)
                | (go_at_call 23; refine (HALL.out _ hB1).mono ?_; rintro e w2 ⟨rfl, hB2⟩; have hC2 := upB hB1 hB2)
                | (go_at_call 24; refine (HEND.out _ hC2).mono ?_; rintro e w3 ⟨rfl, hB3⟩; have hC3 := upB hC2 hB3)
                | (go_at_call 18; refine (Hs64.out _ hC4).mono ?_; rintro e w5 ⟨rfl, hB5⟩; have hC5 := upB hC4 hB5)
                | (go_at_call 18; refine (Hs8.out _ hC3).mono ?_; rintro e w4 ⟨rfl, hB4⟩; have hC4 := upB hC3 hB4)
                | fail)
              go_ret
              exact ⟨rfl, hC4⟩
            | true =>
              cases q4 with
              | false =>
                obtain rfl : v = 0 := V3.out
                go_enter Tryd.func11, Tryd.ntmps11
                go_wp2_with (first
                  | (go_at_call 22; refine (HK.out _).mono ?_; rintro e w1 ⟨rfl, hB1⟩)
                  | (go_at_call 23; refine (HALL.out _ hB1).mono ?_; rintro e w2 ⟨rfl, hB2⟩; have hC2 := upB hB1 hB2)
                  | (go_at_call 24; refine (HEND.out _ hC2).mono ?_; rintro e w3 ⟨rfl, hB3⟩; have hC3 := upB hC2 hB3)
                  | (go_at_call 18; refine (Hs64.out _ hC4).mono ?_; rintro e w5 ⟨rfl, hB5⟩; have hC5 := upB hC4 hB5)
                  | (go_at_call 18; refine (Hs8.out _ hC3).mono ?_; rintro e w4 ⟨rfl, hB4⟩; have hC4 := upB hC3 hB4)
                  | fail)
                go_ret
                exact ⟨rfl, hC5⟩
              | true =>
                obtain rfl : v = 12 := V3.out
                go_enter Tryd.func11, Tryd.ntmps11
                go_wp2_with (first
                  | (go_at_call 22; refine (HK.out _).mono ?_; rintro e w1 ⟨rfl, hB1⟩)
                  | (go_at_call 23; refine (HALL.out _ hB1).mono ?_; rintro e w2 ⟨rfl, hB2⟩; have hC2 := upB hB1 hB2)
                  | (go_at_call 24; refine (HEND.out _ hC2).mono ?_; rintro e w3 ⟨rfl, hB3⟩; have hC3 := upB hC2 hB3)
                  | (go_at_call 18; refine (Hs64.out _ hC4).mono ?_; rintro e w5 ⟨rfl, hB5⟩; have hC5 := upB hC4 hB5)
                  | (go_at_call 18; refine (Hs8.out _ hC3).mono ?_; rintro e w4 ⟨rfl, hB4⟩; have hC4 := upB hC3 hB4)
                  | fail)
                go_ret
                exact ⟨rfl, hC5⟩
      · cases q1 with
        | false =>
          obtain rfl := V0.out rfl
          clear V1 V2
          go_enter Tryd.func11, Tryd.ntmps11
          go_wp2_with (first
            | (go_at_call 22; refine (HK.out _).mono ?_; rintro e w1 ⟨rfl, hB1⟩)
            | (go_at_call 23; refine (HALL.out _ hB1).mono ?_; rintro e w2 ⟨rfl, hB2⟩; have hC2 := upB hB1 hB2)
            | (go_at_call 24; refine (HEND.out _ hC2).mono ?_; rintro e w3 ⟨rfl, hB3⟩; have hC3 := upB hC2 hB3)
            | (go_at_call 18; refine (Hs64.out _ hC4).mono ?_; rintro e w5 ⟨rfl, hB5⟩; have hC5 := upB hC4 hB5)
            | (go_at_call 18; refine (Hs8.out _ hC3).mono ?_; rintro e w4 ⟨rfl, hB4⟩; have hC4 := upB hC3 hB4)
            | fail)
          go_ret
          exact ⟨rfl, hC2⟩
        | true =>
          have V1' := Lib.hid (V1.out rfl)
          have V2' := Lib.hid (V2.out rfl)
          clear V0 V1 V2
          cases q2 with
          | false =>
            obtain rfl := V1'.out rfl
            clear V2'
            go_enter Tryd.func11, Tryd.ntmps11
            go_wp2_with (first
              | (go_at_call 22; refine (HK.out _).mono ?_; rintro e w1 ⟨rfl, hB1⟩)
              | (go_at_call 23; refine (HALL.out _ hB1).mono ?_; rintro e w2 ⟨rfl, hB2⟩; have hC2 := upB hB1 hB2)
              | (go_at_call 24; refine (HEND.out _ hC2).mono ?_; rintro e w3 ⟨rfl, hB3⟩; have hC3 := upB hC2 hB3)
              | (go_at_call 18; refine (Hs64.out _ hC4).mono ?_; rintro e w5 ⟨rfl, hB5⟩; have hC5 := upB hC4 hB5)
              | (go_at_call 18; refine (Hs8.out _ hC3).mono ?_; rintro e w4 ⟨rfl, hB4⟩; have hC4 := upB hC3 hB4)
              | fail)
            go_ret
            exact ⟨rfl, hC3⟩
          | true =>
            have V3 := Lib.hid (V2'.out rfl)
            clear V1' V2'
            cases q3 with
            | false =>
              obtain rfl : v = 0 := V3.out
              go_enter Tryd.func11, Tryd.ntmps11
              go_wp2_with (first
                | (go_at_call 22; refine (HK.out _).mono ?_; rintro e w1 ⟨rfl, hB1⟩)
                | (go_at_call 23; refine (HALL.out _ hB1).mono ?_; rintro e w2 ⟨rfl, hB2⟩; have hC2 := upB hB1 hB2)
                | (go_at_call 24; refine (HEND.out _ hC2).mono ?_; rintro e w3 ⟨rfl, hB3⟩; have hC3 := upB hC2 hB3)
                | (go_at_call 18; refine (Hs64.out _ hC4).mono ?_; rintro e w5 ⟨rfl, hB5⟩; have hC5 := upB hC4 hB5)
                | (go_at_call 18; refine (Hs8.out _ hC3).mono ?_; rintro e w4 ⟨rfl, hB4⟩; have hC4 := upB hC3 hB4)
                | fail)
              go_ret
              exact ⟨rfl, hC4⟩
            | true =>
              cases q4 with
              | false =>
                obtain rfl : v = 0 := V3.out
                go_enter Tryd.func11, Tryd.ntmps11
                go_wp2_with (first
                  | (go_at_call 22; refine (HK.out _).mono ?_; rintro e w1 ⟨rfl, hB1⟩)
                  | (go_at_call 23; refine (HALL.out _ hB1).mono ?_; rintro e w2 ⟨rfl, hB2⟩; have hC2 := upB hB1 hB2)
                  | (go_at_call 24; refine (HEND.out _ hC2).mono ?_; rintro e w3 ⟨rfl, hB3⟩; have hC3 := upB hC2 hB3)
                  | (go_at_call 18; refine (Hs64.out _ hC4).mono ?_; rintro e w5 ⟨rfl, hB5⟩; have hC5 := upB hC4 hB5)
                  | (go_at_call 18; refine (Hs8.out _ hC3).mono ?_; rintro e w4 ⟨rfl, hB4⟩; have hC4 := upB hC3 hB4)
                  | fail)
                go_ret
                exact ⟨rfl, hC5⟩
              | true =>
                obtain rfl : v = 12 := V3.out
                go_enter Tryd.func11, Tryd.ntmps11
                go_wp2_with (first
                  | (go_at_call 22; refine (HK.out _).mono ?_; rintro e w1 ⟨rfl, hB1⟩)
                  | (go_at_call 23; refine (HALL.out _ hB1).mono ?_; rintro e w2 ⟨rfl, hB2⟩; have hC2 := upB hB1 hB2)
                  | (go_at_call 24; refine (HEND.out _ hC2).mono ?_; rintro e w3 ⟨rfl, hB3⟩; have hC3 := upB hC2 hB3)
                  | (go_at_call 18; refine (Hs64.out _ hC4).mono ?_; rintro e w5 ⟨rfl, hB5⟩; have hC5 := upB hC4 hB5)
                  | (go_at_call 18; refine (Hs8.out _ hC3).mono ?_; rintro e w4 ⟨rfl, hB4⟩; have hC4 := upB hC3 hB4)
                  | fail)
                go_ret
                exact ⟨rfl, hC5⟩
    · have hz1 : (z == 1) = false := by simp; omega
      have hz2 : (z == 2) = false := by simp; omega
      have h6 : hs 6 z = false := by rw [A6.out.1]; unfold S; rw [List.contains_cons, List.contains_cons, hz1, hz2]; rfl
      by_cases h00 : z = 0
      · obtain rfl : v = v1 := K1.out h6 (by rw [A6.out.2.1, h00]; rfl)
        subst h00
        clear K6 K1 K9 A6 V0 V1 V2 Ha9214 He78 hz1 hz2 h6 hz
        have HALL := Ha9145
        have HEND := He9
        clear Ha9145 He9
        cases p1 with
        | false =>
          obtain rfl := U0.out rfl
          clear U1 U2
          go_enter Tryd.func11, Tryd.ntmps11
          go_wp2_with (first
            | (go_at_call 22; refine (HK.out _).mono ?_; rintro e w1 ⟨rfl, hB1⟩)
            | (go_at_call 23; refine (HALL.out _ hB1).mono ?_; rintro e w2 ⟨rfl, hB2⟩; have hC2 := upB hB1 hB2)
            | (go_at_call 24; refine (HEND.out _ hC2).mono ?_; rintro e w3 ⟨rfl, hB3⟩; have hC3 := upB hC2 hB3)
            | (go_at_call 18; refine (Hs64.out _ hC4).mono ?_; rintro e w5 ⟨rfl, hB5⟩; have hC5 := upB hC4 hB5)
            | (go_at_call 18; refine (Hs8.out _ hC3).mono ?_; rintro e w4 ⟨rfl, hB4⟩; have hC4 := upB hC3 hB4)
            | fail)
          go_ret
          exact ⟨rfl, hC2⟩
        | true =>
          obtain rfl := N6.out rfl
          have V1' := Lib.hid (U1.out rfl)
          have V2' := Lib.hid (U2.out rfl)
          clear U0 U1 U2 N6
          cases p2 with
          | false =>
            obtain rfl := V1'.out rfl
            clear V2'
            go_enter Tryd.func11, Tryd.ntmps11
            go_wp2_with (first
              | (go_at_call 22; refine (HK.out _).mono ?_; rintro e w1 ⟨rfl, hB1⟩)
              | (go_at_call 23; refine (HALL.out _ hB1).mono ?_; rintro e w2 ⟨rfl, hB2⟩; have hC2 := upB hB1 hB2)
              | (go_at_call 24; refine (HEND.out _ hC2).mono ?_; rintro e w3 ⟨rfl, hB3⟩; have hC3 := upB hC2 hB3)
              | (go_at_call 18; refine (Hs64.out _ hC4).mono ?_; rintro e w5 ⟨rfl, hB5⟩; have hC5 := upB hC4 hB5)
              | (go_at_call 18; refine (Hs8.out _ hC3).mono ?_; rintro e w4 ⟨rfl, hB4⟩; have hC4 := upB hC3 hB4)
              | fail)
            go_ret
            exact ⟨rfl, hC3⟩
          | true =>
            obtain rfl : v = 0 := (V2'.out rfl).trans (by simp)
            go_enter Tryd.func11, Tryd.ntmps11
            go_wp2_with (first
              | (go_at_call 22; refine (HK.out _).mono ?_; rintro e w1 ⟨rfl, hB1⟩)
              | (go_at_call 23; refine (HALL.out _ hB1).mono ?_; rintro e w2 ⟨rfl, hB2⟩; have hC2 := upB hB1 hB2)
              | (go_at_call 24; refine (HEND.out _ hC2).mono ?_; rintro e w3 ⟨rfl, hB3⟩; have hC3 := upB hC2 hB3)
              | (go_at_call 18; refine (Hs64.out _ hC4).mono ?_; rintro e w5 ⟨rfl, hB5⟩; have hC5 := upB hC4 hB5)
              | (go_at_call 18; refine (Hs8.out _ hC3).mono ?_; rintro e w4 ⟨rfl, hB4⟩; have hC4 := upB hC3 hB4)
              | fail)
            go_ret
            exact ⟨rfl, hC3⟩
      · have hz0 : (z == 0) = false := by simp; omega
        obtain rfl : v = 9 := K9.out h6 (by rw [A6.out.2.1]; unfold S; rw [List.contains_cons, hz0]; rfl)
        clear K6 K1 K9 A6 V0 V1 V2 U0 U1 U2 N6 Ha9145 He9 Ha9214 He78 h6 hz
        go_enter Tryd.func11, Tryd.ntmps11
        go_wp2_with (first
          | (go_at_call 22; refine (HK.out _).mono ?_; rintro e w1 ⟨rfl, hB1⟩)
          | fail)
        go_ret
        exact ⟨rfl, hB1⟩
end Go.Proofs.YtnmijmhgmcapcaaDoor.Rul
