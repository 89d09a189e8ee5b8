/-
  fasciaref08: At, Check.
-/
import Derived.Test.YtmeihnhghdmjiaaGreatDoorCtxRB
namespace Go.Proofs.YtmeihnhghdmjiaaGreatDoor.Ctx
open Go.RowKit Ucd

theorem vals (l : List Int) (i : Nat) (hi : i < l.length) (r : Int) (hr : l[i]! = r) :
    (r = 8205 → atC l i = if vir l i = true then 0 else 7) ∧
    (r = 8204 → atC l i = if (vir l i || (two 3 4 (nxt (l.take i).reverse) && two 3 5 (nxt (l.drop (i + 1))))) = true then 0 else 7) ∧
    (r = 183 → atC l i = if (isA l ((i : Int) - 1) 108 && isA l ((i : Int) + 1) 108) = true then 0 else 8) ∧
    (r = 885 → atC l i = if scA l ((i : Int) + 1) 3 = true then 0 else 8) ∧
    (r = 1523 ∨ r = 1524 → atC l i = if scA l ((i : Int) - 1) 5 = true then 0 else 8) ∧
    (r = 12539 → atC l i = if (l.any (scI 8) || (l.any (scI 9) || l.any (scI 10))) = true then 0 else 8) ∧
    (ara r = true → atC l i = if (l.any (wiI 1776 1785)) = true then 8 else 0) ∧
    (eas r = true → atC l i = if (l.any (wiI 1632 1641)) = true then 8 else 0) ∧
    (¬ kd r < 8 → atC l i = 0) := by
  have flip : ∀ (b : Bool) (x : Int), (if b = false then x else 0) = if b = true then 0 else x := fun b x => by cases b <;> rfl
  have eprev : ∀ (P : Int → Bool), (decide (0 ≤ (i : Int) - 1) && (decide ((i : Int) - 1 < l.length) && P l[((i : Int) - 1).toNat]!)) = (decide (0 < i) && P l[i - 1]!) := fun P => by
    by_cases h : 0 < i
    · rw [decide_eq_true (show 0 ≤ (i : Int) - 1 by omega), decide_eq_true (show (i : Int) - 1 < l.length by omega), decide_eq_true h, show ((i : Int) - 1).toNat = i - 1 from by omega]
      simp
    · rw [decide_eq_false (show ¬ 0 ≤ (i : Int) - 1 by omega), decide_eq_false h]
      rfl
  have enext : ∀ (P : Int → Bool), (decide (0 ≤ (i : Int) + 1) && (decide ((i : Int) + 1 < l.length) && P l[((i : Int) + 1).toNat]!)) = (decide (i + 1 < l.length) && P l[i + 1]!) := fun P => by
    rw [decide_eq_true (show 0 ≤ (i : Int) + 1 by omega), show ((i : Int) + 1).toNat = i + 1 from by omega]
    by_cases h : i + 1 < l.length
    · rw [decide_eq_true h, decide_eq_true (show (i : Int) + 1 < l.length by omega)]
      simp
    · rw [decide_eq_false h, decide_eq_false (show ¬ (i : Int) + 1 < l.length by omega)]
      rfl
  unfold atC
  rw [hr]
  refine ⟨fun h => ?_, fun h => ?_, fun h => ?_, fun h => ?_, fun h => ?_, fun h => ?_, fun h => ?_, fun h => ?_, fun h => if_neg (fun x => h x.1)⟩
  · subst h
    show (if 4 < 8 ∧ vir l i = false then (7 : Int) else 0) = _
    simp only [show (4 : Nat) < 8 from by decide, true_and]
    exact flip _ _
  · subst h
    show (if 3 < 8 ∧ (vir l i || (on (nxt (l.take i).reverse) && back (nxt (l.drop (i + 1))))) = false then (7 : Int) else 0) = _
    simp only [show (3 : Nat) < 8 from by decide, true_and]
    exact flip _ _
  · subst h
    show (if 0 < 8 ∧ (decide (0 < i) && (decide (l[i - 1]! = 108) && (decide (i + 1 < l.length) && decide (l[i + 1]! = 108)))) = false then (8 : Int) else 0) = _
    unfold isA
    rw [eprev (fun r => decide (r = 108)), enext (fun r => decide (r = 108))]
    simp only [show (0 : Nat) < 8 from by decide, true_and]
    rw [flip, Bool.and_assoc]
  · subst h
    show (if 1 < 8 ∧ (decide (i + 1 < l.length) && decide (sc l[i + 1]! = 3)) = false then (8 : Int) else 0) = _
    unfold scA
    rw [enext (fun r => decide (sc r = 3))]
    simp only [show (1 : Nat) < 8 from by decide, true_and]
    exact flip _ _
  · have e : kd r = 2 ∧ cls 2 = 8 := by rcases h with h | h <;> (subst h; decide)
    rw [e.1, e.2]
    show (if 2 < 8 ∧ (decide (0 < i) && decide (sc l[i - 1]! = 5)) = false then (8 : Int) else 0) = _
    unfold scA
    rw [eprev (fun r => decide (sc r = 5))]
    simp only [show (2 : Nat) < 8 from by decide, true_and]
    exact flip _ _
  · subst h
    show (if 5 < 8 ∧ l.any jap = false then (8 : Int) else 0) = _
    have e : l.any jap = (l.any (scI 8) || (l.any (scI 9) || l.any (scI 10))) := by
      clear hr hi eprev enext flip
      induction l with
      | nil => rfl
      | cons a t ih =>
        simp only [List.any_cons, ih]
        unfold jap scI
        cases decide (sc a = 8) <;> cases decide (sc a = 9) <;> cases decide (sc a = 10) <;> simp
    simp only [show (5 : Nat) < 8 from by decide, true_and]
    rw [← e]
    exact flip _ _
  · rw [kd_ara h]
    show (if 6 < 8 ∧ (!(l.any eas)) = false then (8 : Int) else 0) = _
    have e : l.any eas = l.any (wiI 1776 1785) := by
      congr 1
      funext r
      unfold eas wiI
      congr 1
      exact decide_eq_decide.2 (by omega)
    simp only [show (6 : Nat) < 8 from by decide, true_and]
    rw [← e]
    rcases Bool.eq_false_or_eq_true (l.any eas) with hx | hx <;> simp [hx]
  · rw [kd_eas h]
    show (if 7 < 8 ∧ (!(l.any ara)) = false then (8 : Int) else 0) = _
    have e : l.any ara = l.any (wiI 1632 1641) := by
      congr 1
      funext r
      unfold ara wiI
      congr 1
      exact decide_eq_decide.2 (by omega)
    simp only [show (7 : Nat) < 8 from by decide, true_and]
    rw [← e]
    rcases Bool.eq_false_or_eq_true (l.any ara) with hx | hx <;> simp [hx]
theorem kd_none {r : Int} (h1 : r ≠ 8205) (h2 : r ≠ 8204) (h3 : r ≠ 183) (h4 : r ≠ 885) (h5 : r ≠ 1523) (h6 : r ≠ 1524) (h7 : r ≠ 12539) (ha : ara r = false) (he : eas r = false) : ¬ kd r < 8 := by
  rw [kd_plain ha he]
  have h8 : r ≠ 1632 := fun e => by rw [e] at ha; exact absurd ha (by decide)
  have h9 : r ≠ 1776 := fun e => by rw [e] at he; exact absurd he (by decide)
  rw [show kdK r = 8 from by simp [kdK, h1, h2, h3, h4, h5, h6, h7, h8, h9]]
  decide
set_option maxRecDepth 100000 in
set_option maxHeartbeats 4000000 in
theorem RefAt_in (l : List Int) (i : Nat) (A : Option Addr) (n c : Nat) (w : World) (hn : l.length = n) (hi : i < n) (hn1 : n ≤ 1000000) (hC : C32 l) (hr : Row w w.heap.size A (cl .i32 l)) : Calls Tryz.prog 6 #[.slice A n c, .int .i64 (i : Int)] w (Tells (.int .u8 (atC l i)) w) := by
  have hr' := hr
  obtain ⟨b, o, rfl, hb, hcc⟩ := hr.at_ (by simp; omega)
  have c0 := row_cell hcc i (by omega)
  obtain ⟨x, hx⟩ : ∃ x, (i : Int) - 1 = x := ⟨_, rfl⟩
  obtain ⟨y, hy⟩ : ∃ y : Int, (i : Int) + 1 = y := ⟨_, rfl⟩
  have hyq : y = ((i + 1 : Nat) : Int) := by omega
  have HRB := Lib.hid (fun W (h : Below w.heap.size w W) => reachB_any l i x hx 3 4 (by decide) (by decide) (by decide) (by decide) _ n c W hn (by omega) hn1 hC (upR hr' h))
  have HRF := Lib.hid (fun W (h : Below w.heap.size w W) => hyq ▸ reachF_any l (i + 1) 3 5 (by decide) (by decide) (by decide) (by decide) _ n c W hn (by omega) hn1 hC (upR hr' h))
  have HS := Lib.hid (fun W (h : Below w.heap.size w W) (z s : Int) (h0 : -1 ≤ z) (h1 : z ≤ n) => scriptOne_any l z s _ n c W hn h0 h1 hn1 hC (upR hr' h))
  have HSA := Lib.hid (fun W (h : Below w.heap.size w W) (s : Int) => scriptAll_any l s _ n c W hn hn1 hC (upR hr' h))
  have HW := Lib.hid (fun W (h : Below w.heap.size w W) (lo hi : Int) => within_any l lo hi _ n c W hn hn1 (upR hr' h))
  have HI := Lib.hid (fun W (h : Below w.heap.size w W) (z : Int) => isRef_any l z 108 _ n c W hn hn1 (upR hr' h))
  have hxb : -1 ≤ x ∧ x ≤ n ∧ -1 ≤ y ∧ y ≤ n := by omega
  have HXB := Lib.hid hxb
  obtain ⟨r, hr0⟩ : ∃ r, l[i]! = r := ⟨_, rfl⟩
  have hv := vals l i (by omega) r hr0
  rw [hx, hy] at hv
  have HV := Lib.hid hv
  rw [hr0] at c0
  generalize nxt (l.take i).reverse = jb at HRB HV
  generalize nxt (l.drop (i + 1)) = jf at HRF HV
  have hwx : IntKind.i64.wrap x = x := IntWalk.i64_in _ (by omega)
  have hwy : IntKind.i64.wrap y = y := IntWalk.i64_in _ (by omega)
  have b0 : (0 : Int) ≤ (i : Int) := by omega
  have b1 : (i : Int) < (n : Int) := by omega
  have HVI : Hid (vir l i = (decide (0 < i) && decide (cc l[i - 1]! = 9))) := Lib.hid rfl
  obtain ⟨v, hvv⟩ : ∃ v, vir l i = v := ⟨_, rfl⟩
  rw [hvv] at HV HVI
  have HP : Hid (0 < i → ∃ p : Nat, x = (p : Int) ∧ p < n ∧ w.cell? ⟨b, o + p, none⟩ = some (.int .i32 l[i - 1]!) ∧ (-2147483648 ≤ l[i - 1]! ∧ l[i - 1]! ≤ 2147483647)) := Lib.hid (fun h => ⟨i - 1, by omega, by omega, row_cell hcc (i - 1) (by omega), hC _ (mems (by omega))⟩)
  clear hcc hr0 hr hr' hv hvv hn hn1 hC hyq hxb hi
  go_enter Tryz.func6, Tryz.ntmps6
  go_upto_region 4 with fail
  go_cut [6] (fun s6 wx => s6 = .bool v ∧ Below w.heap.size w wx)
  case first =>
    clear HRB HRF HS HSA HW HI HV HXB
    by_cases h0 : 0 < i
    · obtain ⟨p, hp, hpn, cp, hcp⟩ := HP.out h0
      have HVV := HVI.out
      rw [decide_eq_true h0, Bool.true_and] at HVV
      have h0z : (0 : Int) < (i : Int) := by omega
      subst hp
      have hp0 : (0 : Int) ≤ (p : Int) := by omega
      have hp1 : (p : Int) < (n : Int) := by omega
      generalize l[i - 1]! = z at HVV cp hcp
      have HO := Lib.hid (fun w => RefOf_any z w hcp.1 hcp.2)
      have HR := fun w => (rfld (of z) w).2.1
      unfold cc at HVV
      generalize of z = q at HO HR HVV
      generalize g q 3 = t at HR HVV
      have HVQ := Lib.hid HVV
      clear HVV HP HVI hcp
      go_wp2_with (first | (go_at_call 12; refine (HO.out _).mono ?_; rintro e w1 ⟨rfl, hB1⟩) | fail)
      go_meet
      exact ⟨by first | (rw [HVQ.out]; rfl) | rw [HVQ.out] | (rw [HVQ.out]; simp), hB1⟩
    · have h0z : ¬ (0 : Int) < (i : Int) := by omega
      have HVQ : Hid (v = false) := Lib.hid (by rw [HVI.out, decide_eq_false h0]; rfl)
      clear HP HVI
      go_wp2_with fail
      go_meet
      exact ⟨by first | (rw [HVQ.out]; rfl) | rw [HVQ.out] | (rw [HVQ.out]; simp), Below.refl _ _⟩
  case rest =>
    obtain ⟨rfl, hB0⟩ := hcut
    obtain ⟨V1, V2, V3, V4, V5, V6, V7, V8, V9⟩ := HV.out
    clear HP HVI HV c0
    generalize wc = w0 at hB0 ⊢
    by_cases h1 : r = 8205
    · have e := V1 h1
      subst h1
      cases v with
      | true =>
        have HZ : Hid (atC l i = 0) := Lib.hid (by exact e)
        clear V1 V2 V3 V4 V5 V6 V7 V8 V9 e
        go_wp2_with (first | fail)
        go_ret
        exact ⟨by rw [HZ.out]; rfl, hB0⟩
      | false =>
        have HZ : Hid (atC l i = 7) := Lib.hid (by exact e)
        clear V1 V2 V3 V4 V5 V6 V7 V8 V9 e
        go_wp2_with (first | fail)
        go_ret
        exact ⟨by rw [HZ.out]; rfl, hB0⟩
    · have h1b : (r == 8205) = false := by simpa using h1
      by_cases h2 : r = 8204
      · have e := V2 h2
        subst h2
        cases v with
        | true =>
          have HZ : Hid (atC l i = 0) := Lib.hid (by exact e)
          clear V1 V2 V3 V4 V5 V6 V7 V8 V9 e
          go_wp2_with (first | fail)
          go_ret
          exact ⟨by rw [HZ.out]; rfl, hB0⟩
        | false =>
          obtain ⟨p, hp⟩ : ∃ p, two 3 4 jb = p := ⟨_, rfl⟩
          obtain ⟨f, hf⟩ : ∃ f, two 3 5 jf = f := ⟨_, rfl⟩
          rw [hp] at HRB e
          rw [hf] at HRF e
          clear hp hf
          cases p with
          | false =>
            have HZ : Hid (atC l i = 7) := Lib.hid (by exact e)
            clear V1 V2 V3 V4 V5 V6 V7 V8 V9 e
            go_wp2_with (first
              | (go_at_call 13; refine (HRB.out _ hB0).mono ?_; rintro e w1 ⟨rfl, hB1⟩; have hC1 := upB hB0 hB1) | fail)
            go_ret
            exact ⟨by rw [HZ.out]; rfl, hC1⟩
          | true =>
            cases f with
            | true =>
              have HZ : Hid (atC l i = 0) := Lib.hid (by exact e)
              clear V1 V2 V3 V4 V5 V6 V7 V8 V9 e
              go_wp2_with (first
                | (go_at_call 13; refine (HRF.out _ hC1).mono ?_; rintro e w2 ⟨rfl, hB2⟩; have hC2 := upB hC1 hB2)
                | (go_at_call 13; refine (HRB.out _ hB0).mono ?_; rintro e w1 ⟨rfl, hB1⟩; have hC1 := upB hB0 hB1) | fail)
              go_ret
              exact ⟨by rw [HZ.out]; rfl, hC2⟩
            | false =>
              have HZ : Hid (atC l i = 7) := Lib.hid (by exact e)
              clear V1 V2 V3 V4 V5 V6 V7 V8 V9 e
              go_wp2_with (first
                | (go_at_call 13; refine (HRF.out _ hC1).mono ?_; rintro e w2 ⟨rfl, hB2⟩; have hC2 := upB hC1 hB2)
                | (go_at_call 13; refine (HRB.out _ hB0).mono ?_; rintro e w1 ⟨rfl, hB1⟩; have hC1 := upB hB0 hB1) | fail)
              go_ret
              exact ⟨by rw [HZ.out]; rfl, hC2⟩
      · have h2b : (r == 8204) = false := by simpa using h2
        by_cases h3 : r = 183
        · have e := V3 h3
          subst h3
          have HI1 := Lib.hid (fun W h => HI.out W h x)
          have HI2 := Lib.hid (fun W h => HI.out W h y)
          obtain ⟨p, hp⟩ : ∃ p, isA l x 108 = p := ⟨_, rfl⟩
          obtain ⟨f, hf⟩ : ∃ f, isA l y 108 = f := ⟨_, rfl⟩
          rw [hp] at HI1 e
          rw [hf] at HI2 e
          clear hp hf HI
          cases p with
          | false =>
            have HZ : Hid (atC l i = 8) := Lib.hid (by exact e)
            clear V1 V2 V3 V4 V5 V6 V7 V8 V9 e
            go_wp2_with (first
              | (go_at_call 14; refine (HI1.out _ hB0).mono ?_; rintro e w1 ⟨rfl, hB1⟩; have hC1 := upB hB0 hB1) | fail)
            go_ret
            exact ⟨by rw [HZ.out]; rfl, hC1⟩
          | true =>
            cases f with
            | true =>
              have HZ : Hid (atC l i = 0) := Lib.hid (by exact e)
              clear V1 V2 V3 V4 V5 V6 V7 V8 V9 e
              go_wp2_with (first
                | (go_at_call 14; refine (HI2.out _ hC1).mono ?_; rintro e w2 ⟨rfl, hB2⟩; have hC2 := upB hC1 hB2)
                | (go_at_call 14; refine (HI1.out _ hB0).mono ?_; rintro e w1 ⟨rfl, hB1⟩; have hC1 := upB hB0 hB1) | fail)
              go_ret
              exact ⟨by rw [HZ.out]; rfl, hC2⟩
            | false =>
              have HZ : Hid (atC l i = 8) := Lib.hid (by exact e)
              clear V1 V2 V3 V4 V5 V6 V7 V8 V9 e
              go_wp2_with (first
                | (go_at_call 14; refine (HI2.out _ hC1).mono ?_; rintro e w2 ⟨rfl, hB2⟩; have hC2 := upB hC1 hB2)
                | (go_at_call 14; refine (HI1.out _ hB0).mono ?_; rintro e w1 ⟨rfl, hB1⟩; have hC1 := upB hB0 hB1) | fail)
              go_ret
              exact ⟨by rw [HZ.out]; rfl, hC2⟩
        · have h3b : (r == 183) = false := by simpa using h3
          by_cases h4 : r = 885
          · have e := V4 h4
            subst h4
            have HQ := Lib.hid (fun W h => HS.out W h y 3 HXB.out.2.2.1 HXB.out.2.2.2)
            obtain ⟨p, hp⟩ : ∃ p, scA l y 3 = p := ⟨_, rfl⟩
            rw [hp] at HQ e
            clear hp
            cases p with
            | true =>
              have HZ : Hid (atC l i = 0) := Lib.hid (by exact e)
              clear V1 V2 V3 V4 V5 V6 V7 V8 V9 e
              go_wp2_with (first
                | (go_at_call 15; refine (HQ.out _ hB0).mono ?_; rintro e w1 ⟨rfl, hB1⟩; have hC1 := upB hB0 hB1) | fail)
              go_ret
              exact ⟨by rw [HZ.out]; rfl, hC1⟩
            | false =>
              have HZ : Hid (atC l i = 8) := Lib.hid (by exact e)
              clear V1 V2 V3 V4 V5 V6 V7 V8 V9 e
              go_wp2_with (first
                | (go_at_call 15; refine (HQ.out _ hB0).mono ?_; rintro e w1 ⟨rfl, hB1⟩; have hC1 := upB hB0 hB1) | fail)
              go_ret
              exact ⟨by rw [HZ.out]; rfl, hC1⟩
          · have h4b : (r == 885) = false := by simpa using h4
            by_cases h5 : r = 1523
            · have e := V5 (.inl h5)
              subst h5
              have HQ := Lib.hid (fun W h => HS.out W h x 5 HXB.out.1 HXB.out.2.1)
              obtain ⟨p, hp⟩ : ∃ p, scA l x 5 = p := ⟨_, rfl⟩
              rw [hp] at HQ e
              clear hp
              cases p with
              | true =>
                have HZ : Hid (atC l i = 0) := Lib.hid (by exact e)
                clear V1 V2 V3 V4 V5 V6 V7 V8 V9 e
                go_wp2_with (first
                  | (go_at_call 15; refine (HQ.out _ hB0).mono ?_; rintro e w1 ⟨rfl, hB1⟩; have hC1 := upB hB0 hB1) | fail)
                go_ret
                exact ⟨by rw [HZ.out]; rfl, hC1⟩
              | false =>
                have HZ : Hid (atC l i = 8) := Lib.hid (by exact e)
                clear V1 V2 V3 V4 V5 V6 V7 V8 V9 e
                go_wp2_with (first
                  | (go_at_call 15; refine (HQ.out _ hB0).mono ?_; rintro e w1 ⟨rfl, hB1⟩; have hC1 := upB hB0 hB1) | fail)
                go_ret
                exact ⟨by rw [HZ.out]; rfl, hC1⟩
            · have h5b : (r == 1523) = false := by simpa using h5
              by_cases h6 : r = 1524
              · have e := V5 (.inr h6)
                subst h6
                have HQ := Lib.hid (fun W h => HS.out W h x 5 HXB.out.1 HXB.out.2.1)
                obtain ⟨p, hp⟩ : ∃ p, scA l x 5 = p := ⟨_, rfl⟩
                rw [hp] at HQ e
                clear hp
                cases p with
                | true =>
                  have HZ : Hid (atC l i = 0) := Lib.hid (by exact e)
                  clear V1 V2 V3 V4 V5 V6 V7 V8 V9 e
                  go_wp2_with (first
                    | (go_at_call 15; refine (HQ.out _ hB0).mono ?_; rintro e w1 ⟨rfl, hB1⟩; have hC1 := upB hB0 hB1) | fail)
                  go_ret
                  exact ⟨by rw [HZ.out]; rfl, hC1⟩
                | false =>
                  have HZ : Hid (atC l i = 8) := Lib.hid (by exact e)
                  clear V1 V2 V3 V4 V5 V6 V7 V8 V9 e
                  go_wp2_with (first
                    | (go_at_call 15; refine (HQ.out _ hB0).mono ?_; rintro e w1 ⟨rfl, hB1⟩; have hC1 := upB hB0 hB1) | fail)
                  go_ret
                  exact ⟨by rw [HZ.out]; rfl, hC1⟩
              · have h6b : (r == 1524) = false := by simpa using h6
                by_cases h7 : r = 12539
                · have e := V6 h7
                  subst h7
                  have Hp := Lib.hid (fun W h => HSA.out W h 8)
                  obtain ⟨p, hp⟩ : ∃ q, l.any (scI 8) = q := ⟨_, rfl⟩
                  rw [hp] at Hp e
                  clear hp
                  have Hf := Lib.hid (fun W h => HSA.out W h 9)
                  obtain ⟨f, hf⟩ : ∃ q, l.any (scI 9) = q := ⟨_, rfl⟩
                  rw [hf] at Hf e
                  clear hf
                  have Hg3 := Lib.hid (fun W h => HSA.out W h 10)
                  obtain ⟨g3, hg3⟩ : ∃ q, l.any (scI 10) = q := ⟨_, rfl⟩
                  rw [hg3] at Hg3 e
                  clear hg3
                  cases p with
                  | true =>
                    have HZ : Hid (atC l i = 0) := Lib.hid (by exact e)
                    clear V1 V2 V3 V4 V5 V6 V7 V8 V9 e
                    go_wp2_with (first
                      | (go_at_call 15; refine (Hp.out _ hB0).mono ?_; rintro e w1 ⟨rfl, hB1⟩; have hC1 := upB hB0 hB1) | fail)
                    go_ret
                    exact ⟨by rw [HZ.out]; rfl, hC1⟩
                  | false =>
                    cases f with
                    | true =>
                      have HZ : Hid (atC l i = 0) := Lib.hid (by exact e)
                      clear V1 V2 V3 V4 V5 V6 V7 V8 V9 e
                      go_wp2_with (first
                        | (go_at_call 15; refine (Hf.out _ hC1).mono ?_; rintro e w2 ⟨rfl, hB2⟩; have hC2 := upB hC1 hB2)
                        | (go_at_call 15; refine (Hp.out _ hB0).mono ?_; rintro e w1 ⟨rfl, hB1⟩; have hC1 := upB hB0 hB1) | fail)
                      go_ret
                      exact ⟨by rw [HZ.out]; rfl, hC2⟩
                    | false =>
                      cases g3 with
                      | true =>
                        have HZ : Hid (atC l i = 0) := Lib.hid (by exact e)
                        clear V1 V2 V3 V4 V5 V6 V7 V8 V9 e
                        go_wp2_with (first
                          | (go_at_call 15; refine (Hg3.out _ hC2).mono ?_; rintro e w3 ⟨rfl, hB3⟩; have hC3 := upB hC2 hB3)
                          | (go_at_call 15; refine (Hf.out _ hC1).mono ?_; rintro e w2 ⟨rfl, hB2⟩; have hC2 := upB hC1 hB2)
                          | (go_at_call 15; refine (Hp.out _ hB0).mono ?_; rintro e w1 ⟨rfl, hB1⟩; have hC1 := upB hB0 hB1) | fail)
                        go_ret
                        exact ⟨by rw [HZ.out]; rfl, hC3⟩
                      | false =>
                        have HZ : Hid (atC l i = 8) := Lib.hid (by exact e)
                        clear V1 V2 V3 V4 V5 V6 V7 V8 V9 e
                        go_wp2_with (first
                          | (go_at_call 15; refine (Hg3.out _ hC2).mono ?_; rintro e w3 ⟨rfl, hB3⟩; have hC3 := upB hC2 hB3)
                          | (go_at_call 15; refine (Hf.out _ hC1).mono ?_; rintro e w2 ⟨rfl, hB2⟩; have hC2 := upB hC1 hB2)
                          | (go_at_call 15; refine (Hp.out _ hB0).mono ?_; rintro e w1 ⟨rfl, hB1⟩; have hC1 := upB hB0 hB1) | fail)
                        go_ret
                        exact ⟨by rw [HZ.out]; rfl, hC3⟩
                · have h7b : (r == 12539) = false := by simpa using h7
                  by_cases h8 : 1632 ≤ r ∧ r ≤ 1641
                  · have e := V7 (by unfold ara; simp; omega)
                    have g1 : 1632 ≤ r := h8.1
                    have g2 : r ≤ 1641 := h8.2
                    clear h8
                    have HQ := Lib.hid (fun W h => HW.out W h 1776 1785)
                    obtain ⟨p, hp⟩ : ∃ p, l.any (wiI 1776 1785) = p := ⟨_, rfl⟩
                    rw [hp] at HQ e
                    clear hp
                    cases p with
                    | true =>
                      have HZ : Hid (atC l i = 8) := Lib.hid (by exact e)
                      clear V1 V2 V3 V4 V5 V6 V7 V8 V9 e
                      go_wp2_with (first
                        | (go_at_call 16; refine (HQ.out _ hB0).mono ?_; rintro e w1 ⟨rfl, hB1⟩; have hC1 := upB hB0 hB1) | fail)
                      go_ret
                      exact ⟨by rw [HZ.out]; rfl, hC1⟩
                    | false =>
                      have HZ : Hid (atC l i = 0) := Lib.hid (by exact e)
                      clear V1 V2 V3 V4 V5 V6 V7 V8 V9 e
                      go_wp2_with (first
                        | (go_at_call 16; refine (HQ.out _ hB0).mono ?_; rintro e w1 ⟨rfl, hB1⟩; have hC1 := upB hB0 hB1) | fail)
                      go_ret
                      exact ⟨by rw [HZ.out]; rfl, hC1⟩
                  · by_cases h9 : 1776 ≤ r ∧ r ≤ 1785
                    · have e := V8 (by unfold eas; simp; omega)
                      have g1 : 1632 ≤ r := by omega
                      have g2 : ¬ r ≤ 1641 := by omega
                      have g3 : 1776 ≤ r := h9.1
                      have g4 : r ≤ 1785 := h9.2
                      clear h8 h9
                      have HQ := Lib.hid (fun W h => HW.out W h 1632 1641)
                      obtain ⟨p, hp⟩ : ∃ p, l.any (wiI 1632 1641) = p := ⟨_, rfl⟩
                      rw [hp] at HQ e
                      clear hp
                      cases p with
                      | true =>
                        have HZ : Hid (atC l i = 8) := Lib.hid (by exact e)
                        clear V1 V2 V3 V4 V5 V6 V7 V8 V9 e
                        go_wp2_with (first
                          | (go_at_call 16; refine (HQ.out _ hB0).mono ?_; rintro e w1 ⟨rfl, hB1⟩; have hC1 := upB hB0 hB1) | fail)
                        go_ret
                        exact ⟨by rw [HZ.out]; rfl, hC1⟩
                      | false =>
                        have HZ : Hid (atC l i = 0) := Lib.hid (by exact e)
                        clear V1 V2 V3 V4 V5 V6 V7 V8 V9 e
                        go_wp2_with (first
                          | (go_at_call 16; refine (HQ.out _ hB0).mono ?_; rintro e w1 ⟨rfl, hB1⟩; have hC1 := upB hB0 hB1) | fail)
                        go_ret
                        exact ⟨by rw [HZ.out]; rfl, hC1⟩
                    · have e := V9 (kd_none h1 h2 h3 h4 h5 h6 h7 (by unfold ara; simp; omega) (by unfold eas; simp; omega))
                      by_cases g1 : 1632 ≤ r
                      · have g2 : ¬ r ≤ 1641 := by omega
                        by_cases g3 : 1776 ≤ r
                        · have g4 : ¬ r ≤ 1785 := by omega
                          have HZ : Hid (atC l i = 0) := Lib.hid (by exact e)
                          clear V1 V2 V3 V4 V5 V6 V7 V8 V9 e
                          go_wp2_with (first | fail)
                          go_ret
                          exact ⟨by rw [HZ.out]; rfl, hB0⟩
                        · have HZ : Hid (atC l i = 0) := Lib.hid (by exact e)
                          clear V1 V2 V3 V4 V5 V6 V7 V8 V9 e
                          go_wp2_with (first | fail)
                          go_ret
                          exact ⟨by rw [HZ.out]; rfl, hB0⟩
                      · have g3 : ¬ 1776 ≤ r := by omega
                        have HZ : Hid (atC l i = 0) := Lib.hid (by exact e)
                        clear V1 V2 V3 V4 V5 V6 V7 V8 V9 e
                        go_wp2_with (first | fail)
                        go_ret
                        exact ⟨by rw [HZ.out]; rfl, hB0⟩
set_option maxRecDepth 100000 in
set_option maxHeartbeats 1000000 in
theorem RefAt_int (l : List Int) (i : Int) (A : Option Addr) (n c : Nat) (w : World) (hn : l.length = n) (hn1 : n ≤ 1000000) (hC : C32 l) (hr : Row w w.heap.size A (cl .i32 l)) : Calls Tryz.prog 6 #[.slice A n c, .int .i64 i] w (Tells (.int .u8 (atI l i)) w) := by
  unfold atI
  rw [hn]
  by_cases h0 : i < 0
  · rw [if_neg (by omega)]
    clear hr hC hn
    go_enter Tryz.func6, Tryz.ntmps6
    go_wp2_with fail
    go_ret
    exact ⟨rfl, Below.refl _ _⟩
  · by_cases h1 : i < n
    · rw [if_pos ⟨by omega, h1⟩]
      have := RefAt_in l i.toNat A n c w hn (by omega) hn1 hC hr
      rwa [show ((i.toNat : Nat) : Int) = i from by omega] at this
    · rw [if_neg (by omega)]
      have h2 : (n : Int) ≤ i := by omega
      clear hr hC hn
      go_enter Tryz.func6, Tryz.ntmps6
      go_wp2_with fail
      go_ret
      exact ⟨rfl, Below.refl _ _⟩
theorem atC_bd (l : List Int) (i : Nat) : 0 ≤ atC l i := by
  unfold atC
  split
  · unfold cls
    split
    · decide
    · split <;> decide
  · exact Int.le_refl _
set_option maxRecDepth 100000 in
set_option maxHeartbeats 1000000 in
theorem RefCheck_any (l : List Int) (A : Option Addr) (n c : Nat) (w : World) (hn : l.length = n) (hn1 : n ≤ 1000000) (hC : C32 l) (hr : Row w w.heap.size A (cl .i32 l)) : Calls Tryz.prog 8 #[.slice A n c] w (Tells (.int .u8 (chkC l)) w) := by
  have HN := Lib.hid hn
  have HC := Lib.hid hC
  clear hn hC
  go_enter Tryz.func8, Tryz.ntmps8
  go_wp2_with fail
  go_loopg [3] n (fun m s3 wr => ∃ k : Nat, s3 = .int .i64 (k : Int) ∧ m = n - k ∧ k ≤ n ∧ Hid (∀ j, j < k → atC l j = 0) ∧ Below w.heap.size w wr)
  case atStart => exact ⟨0, rfl, rfl, Nat.zero_le _, Lib.hid (fun j hj => absurd hj (Nat.not_lt_zero _)), Below.refl _ _⟩
  case round =>
    obtain ⟨k, rfl, rfl, hk, HNo, hB⟩ := hrel
    by_cases hlt : k < n
    · have hltz : (k : Int) < (n : Int) := by omega
      have HA := Lib.hid (RefAt_in l k A n c wr HN.out hlt hn1 HC.out (upR hr hB))
      have HX : Hid (atC l k ≠ 0 → chkC l = atC l k) := Lib.hid (fun h => chk_at (by rw [HN.out]; exact hlt) h HNo.out)
      have HF : Hid (atC l k = 0 → ∀ j, j < k + 1 → atC l j = 0) := Lib.hid (fun h j hj => by
        by_cases e : j = k
        · rw [e]; exact h
        · exact HNo.out j (by omega))
      have hb := atC_bd l k
      generalize atC l k = x at HA HX HF hb
      by_cases h0 : x = 0
      · subst h0
        have HFF := Lib.hid (HF.out rfl)
        clear HX HF
        go_wp2_with (first | (go_at_call 6; refine HA.out.mono ?_; rintro e w1 ⟨rfl, hB1⟩) | fail)
        go_roundg (n - (k + 1))
        case measure => omega
        case rel => exact ⟨k + 1, by go_num, rfl, by omega, HFF, upB hB hB1⟩
      · have hpos : 0 < x := by omega
        have HXX := Lib.hid (HX.out h0)
        clear HX HF h0
        go_wp2_with (first | (go_at_call 6; refine HA.out.mono ?_; rintro e w1 ⟨rfl, hB1⟩) | fail)
        go_ret
        exact ⟨by rw [HXX.out]; rfl, upB hB hB1⟩
    · obtain rfl : k = n := by omega
      have hltz : ¬ ((k : Nat) : Int) < (k : Int) := by omega
      have HZ : Hid (chkC l = 0) := Lib.hid (chk_none (by rw [HN.out]; exact HNo.out))
      go_wp2_with fail
      go_ret
      exact ⟨by rw [HZ.out]; rfl, hB⟩
end Go.Proofs.YtmeihnhghdmjiaaGreatDoor.Ctx
