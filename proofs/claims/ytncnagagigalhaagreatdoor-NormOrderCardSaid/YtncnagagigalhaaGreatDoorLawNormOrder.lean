/-
  For any code points (up to 200) and any place: in a row that is taken apart classes fall at starters alone, and nobody is made of others; two marks of unlike classes beside one another may change places, and it is the same (fascialaw05.NormOrder answers true). No condition.
-/
import Derived.Test.YtncnagagigalhaaGreatDoorNormY
import Derived.Test.YtncnagagigalhaaGreatDoorStabH
import Derived.Test.YtncnagagigalhaaGreatDoorFrame
import Derived.Deep.RegionHeld3
import Derived.Test.YtncnagagigalhaaGreatDoorFrame
import Derived.Test.YtncnagagigalhaaGreatDoorTie
import Derived.Test.YtncnagagigalhaaGreatDoorCards
import Derived.ProofKit
import Derived.Lay
import Derived.Stop.Joined
import Derived.SevenTiedAt
namespace Go.Proofs.YtncnagagigalhaaGreatDoor.normOrder
open Go.ChangeShapes Go.WideShapes Go.ChangeAt Go.RowKit Norm

theorem in_c32 {zs : List Int} (h : ∀ n ∈ zs, (Lit.int .i32 n).wf = true) : C32 zs := fun x hx => wf32 (h x hx)
theorem own_empty (w : World) (base : Nat) (e : TypeId) (hb : base ≤ w.heap.size) : (w.alloc (.cells #[] e)).ownsRow base e 1 (.slice (some ⟨w.heap.size, 0, none⟩) 0 0) 0 [] :=
  ⟨rfl, .inr ⟨w.heap.size, 0, #[], rfl, hb, heap_alloc_new w _, Nat.le_refl _, Nat.zero_le _, rfl, rfl⟩⟩
theorem run200 {l : List Int} {k : Nat} (h : l.length = k) (hk : k ≤ 1000) : Runs 100000 (dec l) := runs_short (by have := dec_len l; omega)
theorem NFC_own (l R : List Int) (A : Option Addr) (k cap : Nat) (w : World) (hk : l.length = k) (hl : k ≤ 1000) (hC : C32 l) (hr : Row w w.heap.size A (cl .i32 l)) (h : nfc l = R) : Calls Tryz.prog 18 #[.slice A k cap] w (MadeV w R) := by
  have hR := run200 hk hl
  subst hk
  subst h
  exact (NFC_any 100000 stable_any l A cap w hl hC hr hR).mono fun _ _ ⟨g, c, he, ho, hb⟩ => ⟨_, c, he, ho, hb⟩
theorem NFD_own (l R : List Int) (A : Option Addr) (k cap : Nat) (w : World) (hk : l.length = k) (hl : k ≤ 1000) (hC : C32 l) (hr : Row w w.heap.size A (cl .i32 l)) (h : nfd l = R) : Calls Tryz.prog 15 #[.slice A k cap] w (MadeV w R) := by
  have hR := run200 hk hl
  subst hk
  subst h
  exact NFD_any 100000 stable_any l A cap w hl hC hr hR
theorem Same_glue (l : List Int) (A B : Option Addr) (n m c d : Nat) (w : World) (hn : l.length = n) (hm : l.length = m) (hn1 : n ≤ 1000000) (hra : Row w w.heap.size A (cl .i32 l)) (hrb : Row w w.heap.size B (cl .i32 l)) :
    Calls Tryz.prog 12 #[.slice A n c, .slice B m d] w (IsB true w) := by
  have := Same_any l l A B n m c d w hn hm hn1 (by omega) hra hrb
  rw [decide_eq_true rfl] at this
  exact this
theorem nfd_get {l : List Int} (hC : C32 l) {i : Nat} (hi : i < (nfd l).length) : full (nfd l)[i]! = [(nfd l)[i]!] ∧ -2147483648 ≤ (nfd l)[i]! ∧ (nfd l)[i]! ≤ 2147483647 ∧ ccc (nfd l)[i]! = (arr [] (dec l))[i]!.2 := by
  have hl : i < (arr [] (dec l)).length := by unfold nfd at hi; simpa using hi
  have e : (nfd l)[i]! = (arr [] (dec l))[i]!.1 := by
    show ((arr [] (dec l)).map (·.1))[i]! = _
    rw [getElem!_pos _ i (by simpa using hl), getElem!_pos _ i hl, List.getElem_map]
  have hm : (arr [] (dec l))[i]! ∈ arr [] (dec l) := by rw [getElem!_pos _ i hl]; exact List.getElem_mem hl
  have h1 := arr_fix hC _ hm
  have h2 := arr_w2 (dec_w2 hC) _ hm
  rw [e]
  exact ⟨h1.1, h2.1, h2.2, h1.2.symm⟩
theorem nfd_rise {l : List Int} (hC : C32 l) {i : Nat} (hi : i + 1 < (nfd l).length) (hne : ccc (nfd l)[i + 1]! ≠ 0) : ccc (nfd l)[i]! ≤ ccc (nfd l)[i + 1]! := by
  have a := (nfd_get hC (i := i) (by omega)).2.2.2
  have b := (nfd_get hC hi).2.2.2
  rw [a, b]
  rw [b] at hne
  exact ordl_at i (nfd_ordl hC) (by unfold nfd at hi; simpa using hi) hne
theorem row_at {w : World} {b o : Nat} {l : List Int} (hc : ∀ k, k < (cl .i32 l).length → w.cell? ⟨b, o + k, none⟩ = (cl .i32 l)[k]?) (k : Nat) (hk : k < l.length) : w.cell? ⟨b, o + k, none⟩ = some (.int .i32 l[k]!) := by
  rw [hc k (by simpa using hk), cl_get _ _ _ hk, getElem!_pos l k hk]
set_option maxRecDepth 100000 in
set_option maxHeartbeats 2000000 in
theorem walk (A : Option Addr) (n cap : Nat) (l : List Int) (c : Int) (w : World) (hin : InRow .i32 w A n cap l) (hc : 0 ≤ c) (_hc2 : c ≤ 255) : Calls Tryz.prog 5 #[.slice A n cap, .int .u8 c] w fun e w' => e = .returned (.bool true) ∧ Below w.heap.size w w' := by
  obtain ⟨hlen, _, _, hrow, hwf⟩ := hin
  obtain ⟨i0, hi, hz0, hz1, hz2⟩ := info_split info_int32
  by_cases h200 : 200 < n
  · have h200z : (200 : Int) < (n : Int) := by omega
    go_enter Tryz.func5, Tryz.ntmps5
    go_wp2_with fail
    refine (awake_any _).mono ?_
    rintro e w1 ⟨rfl, hB1⟩
    go_wp2_with fail
    go_ret
    exact ⟨rfl, hB1⟩
  · have h200z : ¬ (200 : Int) < (n : Int) := by omega
    have HC := Lib.hid (in_c32 hwf)
    have HL := Lib.hid hlen
    obtain ⟨D, hD⟩ : ∃ D, nfd l = D := ⟨_, rfl⟩
    have HG : Hid (∀ i, i < D.length → full D[i]! = [D[i]!] ∧ -2147483648 ≤ D[i]! ∧ D[i]! ≤ 2147483647) := Lib.hid (fun i hi => by have := nfd_get HC.out (i := i) (by rw [hD]; exact hi); rw [hD] at this; exact ⟨this.1, this.2.1, this.2.2.1⟩)
    have HO : Hid (∀ i, i + 1 < D.length → ccc D[i + 1]! ≠ 0 → ccc D[i]! ≤ ccc D[i + 1]!) := Lib.hid (fun i hi hne => by have := nfd_rise HC.out (i := i) (by rw [hD]; exact hi) (by rw [hD]; exact hne); rw [hD] at this; exact this)
    have hDl : D.length ≤ 1000 := by rw [← hD, nfd_len]; have := dec_len l; omega
    have HD := Lib.hid hD
    clear hwf hlen hD
    go_enter Tryz.func5, Tryz.ntmps5
    go_wp2_with fail
    refine (NFD_own l D _ n _ _ HL.out (by omega) HC.out hrow HD.out).mono ?_
    rintro e w1 ⟨A1, c1, rfl, ho1, hB1⟩
    have hr1 := Row.of_own ho1
    clear ho1
    go_wp2_with fail
    go_loopg [21] D.length (fun m s21 wr => ∃ k : Nat, s21 = .int .i64 (k : Int) ∧ m = D.length - k ∧ k ≤ D.length ∧ Below w.heap.size w wr ∧ Row wr wr.heap.size A1 (cl .i32 D))
    case atStart => exact ⟨0, rfl, rfl, Nat.zero_le _, hB1, hr1⟩
    case round =>
      obtain ⟨k, rfl, rfl, hk, hB, hr⟩ := hrel
      clear hB1 hr1
      by_cases hlt : k < D.length
      · have hltz : (k : Int) < (D.length : Int) := by omega
        obtain ⟨hfix, hr32⟩ := HG.out k hlt
        obtain ⟨b0, o0, rfl, hb0, hcc⟩ := hr.at_ (by simp; omega)
        have c0 := row_at hcc k hlt
        have HK : Hid (0 < k → wr.cell? ⟨b0, o0 + (k - 1), none⟩ = some (.int .i32 D[k - 1]!)) := Lib.hid (fun h => row_at hcc (k - 1) (by omega))
        have HOk : Hid (0 < k → ccc D[k]! ≠ 0 → ccc D[k - 1]! ≤ ccc D[k]!) := Lib.hid (fun h hne => by have := HO.out (k - 1) (by omega) (by rw [show k - 1 + 1 = k from by omega]; exact hne); rw [show k - 1 + 1 = k from by omega] at this; exact this)
        obtain ⟨r, hrr⟩ : ∃ r, D[k]! = r := ⟨_, rfl⟩
        rw [hrr] at hfix hr32 c0 HOk
        have HOF := Lib.hid (fun w => Of_any r w)
        have HRC := run_ccc (Ucd.of r)
        obtain ⟨p, hp⟩ : ∃ p, Ucd.of r = p := ⟨_, rfl⟩
        have HP : Hid (ccc r = Ucd.g p 3) := Lib.hid (by rw [← hp]; rfl)
        have hpos := ccc_pos r
        rw [hp] at HOF HRC
        rw [HP.out] at hpos HOk
        clear hp hrr hcc
        have HSP := Lib.hid (fun w => Split_row r [r] 1 w hr32 hfix rfl)
        clear hfix hr32
        go_wp2_with fail
        refine (HSP.out _).mono ?_
        rintro e w2 ⟨A2, c2, rfl, hr2, hB2⟩
        clear hr2
        go_wp2_with fail
        refine (HSP.out _).mono ?_
        rintro e w3 ⟨A3, c3, rfl, hr3, hB3⟩
        obtain ⟨b3, o3, rfl, hb3, hcc3⟩ := hr3.at_ (by simp)
        have d0 := hcc3 0 (by simp)
        rw [Nat.add_zero] at d0
        have d0' : w3.cell? ⟨b3, o3, none⟩ = some (.int .i32 r) := d0
        have hK3 := upB hB2 hB3
        have hs3 := hr.up hK3
        have hW3 := upB hB hK3
        have hb03 : b0 < w3.heap.size := Nat.lt_of_lt_of_le hb0 hK3.size
        have HK3 : Hid (0 < k → w3.cell? ⟨b0, o0 + (k - 1), none⟩ = some (.int .i32 D[k - 1]!)) := Lib.hid (fun h => (hK3.cell (p := ⟨b0, o0 + (k - 1), none⟩) hb0).trans (HK.out h))
        clear hB2 hB3 hr hB HK d0 hcc3 hr3 c0 hK3 HSP hb0
        go_wp2_with fail
        refine (HOF.out _).mono ?_
        rintro e w4 ⟨rfl, hB4⟩
        have hs4 := hs3.up hB4
        have hW4 := upB hW3 hB4
        have HK4 : Hid (0 < k → w4.cell? ⟨b0, o0 + (k - 1), none⟩ = some (.int .i32 D[k - 1]!)) := Lib.hid (fun h => (hB4.cell (p := ⟨b0, o0 + (k - 1), none⟩) hb03).trans (HK3.out h))
        clear hs3 hW3 hB4 HK3 d0' hb03 hb3 HOF
        generalize Ucd.g p 3 = q at HRC hpos HOk HP
        go_upto_region 10 with fail
        by_cases hk0 : 0 < k
        · have hk0z : (0 : Int) < (k : Int) := by omega
          by_cases hq0 : 0 < q
          · obtain ⟨k, rfl⟩ : ∃ k', k = k' + 1 := ⟨k - 1, by omega⟩
            have e0 := HK4.out (by omega)
            rw [Nat.add_sub_cancel] at e0
            have hle := HOk.out (by omega) (by omega)
            rw [Nat.add_sub_cancel] at hle
            obtain ⟨r', hr'⟩ : ∃ r', D[k]! = r' := ⟨_, rfl⟩
            rw [hr'] at e0 hle
            have HOF' := Lib.hid (fun w => Of_any r' w)
            have HRC' := run_ccc (Ucd.of r')
            have HP' : Hid (ccc r' = Ucd.g (Ucd.of r') 3) := Lib.hid rfl
            rw [HP'.out] at hle
            obtain ⟨p', hp'⟩ : ∃ p', Ucd.of r' = p' := ⟨_, rfl⟩
            rw [hp'] at HOF' HRC' hle
            have hnlt : ¬ q < Ucd.g p' 3 := by omega
            clear hr' hp' HP' HK4 HOk
            go_wp2_with fail
            refine (HOF'.out _).mono ?_
            rintro e w5 ⟨rfl, hB5⟩
            have hs5 := hs4.up hB5
            have hW5 := upB hW4 hB5
            go_wp2_with fail
            go_roundg (D.length - (k + 1 + 1))
            case measure => omega
            case rel => exact ⟨k + 1 + 1, by go_num, rfl, by omega, hW5, hs5⟩
          · clear HK4 HOk
            go_wp2_with fail
            go_roundg (D.length - (k + 1))
            case measure => omega
            case rel => exact ⟨k + 1, by go_num, rfl, by omega, hW4, hs4⟩
        · have hk0z : ¬ (0 : Int) < (k : Int) := by omega
          clear HK4 HOk
          go_wp2_with fail
          go_roundg (D.length - (k + 1))
          case measure => omega
          case rel => exact ⟨k + 1, by go_num, rfl, by omega, hW4, hs4⟩
      · obtain rfl : k = D.length := by omega
        have hltz : ¬ ((D.length : Nat) : Int) < (D.length : Int) := by omega
        clear hr HG HO HD
        by_cases hn2 : n < 2
        · have hn2z : (n : Int) < 2 := by omega
          go_wp2_with fail
          refine (awake_any _).mono ?_
          rintro e w2 ⟨rfl, hB2⟩
          go_wp2_with fail
          go_ret
          exact ⟨rfl, upB hB hB2⟩
        · have hn2z : ¬ (n : Int) < 2 := by omega
          have mixed : Tryz.prog.follows .mixedOrders = true := by kernel_rfl
          have hll := HL.out
          obtain ⟨n1, hn1⟩ : ∃ n1, n = n1 + 1 := ⟨n - 1, by omega⟩
          have en : (n : Int) - 1 = (n1 : Int) := by omega
          obtain ⟨κ, hκ⟩ : ∃ κ : Nat, c % (n1 : Int) = (κ : Int) := ⟨(c % (n1 : Int)).toNat, by have := Int.emod_nonneg c (show (n1 : Int) ≠ 0 by omega); omega⟩
          have hκ2 : κ < n1 := by have := Int.emod_lt_of_pos c (show (0 : Int) < (n1 : Int) by omega); omega
          have hm1 : c.tmod (n1 : Int) = (κ : Int) := by rw [Int.tmod_eq_emod_of_nonneg hc]; exact hκ
          have nz : ¬ (n1 : Int) = 0 := by omega
          have nzb : ((n1 : Int) == 0) = false := by simp; omega
          have hκn : κ + 1 < n := by omega
          have hx1 : l.drop κ = l[κ]! :: l.drop (κ + 1) := by rw [getElem!_pos l κ (by omega)]; exact List.drop_eq_getElem_cons (by omega)
          have hx2 : l.drop (κ + 1) = l[κ + 1]! :: l.drop (κ + 1 + 1) := by rw [getElem!_pos l (κ + 1) (by omega)]; exact List.drop_eq_getElem_cons (by omega)
          have hsplit : l = l.take κ ++ l[κ]! :: l[κ + 1]! :: l.drop (κ + 1 + 1) := by
            conv => lhs; rw [← List.take_append_drop κ l, hx1, hx2]
          have hgx : (cl .i32 l)[κ]? = some (.int .i32 l[κ]!) := by rw [cl_get _ _ _ (by omega), getElem!_pos l κ (by omega)]
          have hgy : (cl .i32 l)[κ + 1]? = some (.int .i32 l[κ + 1]!) := by rw [cl_get _ _ _ (by omega), getElem!_pos l (κ + 1) (by omega)]
          have hrl := hrow.up hB
          obtain ⟨bl, ol, rfl, hbl, hcl⟩ := hrl.at_ (by simp; omega)
          have ex := row_at hcl κ (by omega)
          have ey := row_at hcl (κ + 1) (by omega)
          have hset : ((cl .i32 l).set κ (.int .i32 l[κ + 1]!)).set (κ + 1) (.int .i32 l[κ]!) = cl .i32 (l.take κ ++ l[κ + 1]! :: l[κ]! :: l.drop (κ + 1 + 1)) := by
            have ht : (cl .i32 (l.take κ)).length = κ := by simp; omega
            have e : cl .i32 l = cl .i32 (l.take κ) ++ .int .i32 l[κ]! :: .int .i32 l[κ + 1]! :: cl .i32 (l.drop (κ + 1 + 1)) := by
              conv => lhs; rw [hsplit]
              simp [cl]
            rw [e, List.set_append_right _ _ (by omega), ht, Nat.sub_self, List.set_cons_zero, List.set_append_right _ _ (by omega), ht, Nat.add_sub_cancel_left, List.set_cons_succ, List.set_cons_zero]
            simp [cl]
          have HLO : Hid ((l.take κ ++ l[κ + 1]! :: l[κ]! :: l.drop (κ + 1 + 1)).length = 0 + n) := Lib.hid (by simp only [List.length_append, List.length_take, List.length_cons, List.length_drop]; omega)
          have hmx : ∀ i, i < l.length → -2147483648 ≤ l[i]! ∧ l[i]! ≤ 2147483647 := fun i hi => by rw [getElem!_pos l i hi]; exact HC.out _ (List.getElem_mem hi)
          have hbx := hmx κ (by omega)
          have hby := hmx (κ + 1) (by omega)
          have HCO : Hid (C32 (l.take κ ++ l[κ + 1]! :: l[κ]! :: l.drop (κ + 1 + 1))) := Lib.hid (by
            intro z hz
            rcases List.mem_append.1 hz with hz | hz
            · exact HC.out z (List.mem_of_mem_take hz)
            · rcases List.mem_cons.1 hz with rfl | hz
              · exact hby
              · rcases List.mem_cons.1 hz with rfl | hz
                · exact hbx
                · exact HC.out z (List.mem_of_mem_drop hz))
          have HSW : Hid (ccc l[κ]! ≠ 0 → ccc l[κ + 1]! ≠ 0 → ccc l[κ]! ≠ ccc l[κ + 1]! → nfc (l.take κ ++ l[κ + 1]! :: l[κ]! :: l.drop (κ + 1 + 1)) = nfc l) := Lib.hid (fun h1 h2 h3 => by
            rw [nfc_swap h2 h1 (Ne.symm h3), ← hsplit])
          obtain ⟨LO, hLO⟩ : ∃ LO, l.take κ ++ l[κ + 1]! :: l[κ]! :: l.drop (κ + 1 + 1) = LO := ⟨_, rfl⟩
          rw [hLO] at hset HLO HCO HSW
          obtain ⟨x, hx⟩ : ∃ x, l[κ]! = x := ⟨_, rfl⟩
          obtain ⟨y, hy⟩ : ∃ y, l[κ + 1]! = y := ⟨_, rfl⟩
          rw [hx] at hset HSW hgx ex
          rw [hy] at hset HSW hgy ey
          have HSET := Lib.hid hset
          have hk1 : (cl .i32 l).length = n * 1 := by rw [Nat.mul_one, ← hll]; simp [cl]
          have hF0 := own_empty wr wr.heap.size 21 (Nat.le_refl _)
          have hF1 : Below wr.heap.size wr (wr.alloc (.cells #[] 21)) := upA wr _
          have hn200 : n ≤ 200 := by omega
          clear hx hy hLO hset hsplit hx1 hx2 hmx hbx hby hn1 hll hcl hlt h200
          go_upto_region 17 with (first
            | (at_builtin; refine wpList_append_row _ rfl _ _ 22 rfl wr.heap.size 21 i0 (.int .i32 0) 1 4 Tryz.underlying22 hi hz0 hz1 hz2 rfl (by decide) _ 0 [] rfl hF0 _ _ n _ (cl .i32 l) rfl hk1 (hrl.up hF1) (one_cl _ _) (by unfold maxLen; omega) (by omega) hF1.size ?_; intro v2 w2 hO2 hg2; have hK2 : Below wr.heap.size wr w2 := hF1.grown hg2 hF1.size (fun j e => (hF0.lt j e).1); obtain ⟨g2, c2, hv2, _, _, hgg, hg2l⟩ := own_known hO2 (by omega); subst hv2)
            | fail)
          rw [List.nil_append] at hO2
          have q0 : w2.cell? ⟨g2, κ, none⟩ = some (.int .i32 x) := by rw [World.ownsRow.cellAt hO2 κ (by omega)]; exact hgx
          have q1 : w2.cell? ⟨g2, κ + 1, none⟩ = some (.int .i32 y) := by rw [World.ownsRow.cellAt hO2 (κ + 1) (by omega)]; exact hgy
          have f0 := own_frozen hO2 κ
          have f1 := own_frozen hO2 (κ + 1)
          have hs1 := World.ownsRow.stored hO2 κ (.int .i32 y)
          have hs2 := World.ownsRow.stored hs1.1 (κ + 1) (.int .i32 x)
          rw [HSET.out] at hs2
          have hO3 := Lib.hid hs2.1
          have hK3 : Below wr.heap.size wr ((w2.setCell ⟨g2, κ, none⟩ (.int .i32 y)).setCell ⟨g2, κ + 1, none⟩ (.int .i32 x)) := (hK2.setCell (p := ⟨g2, κ, none⟩) hgg _).setCell (p := ⟨g2, κ + 1, none⟩) hgg _
          have HK3 := Lib.hid hK3
          have kz : (κ : Int) < (n : Int) := by omega
          have kz1 : (κ : Int) + 1 < (n : Int) := by omega
          have ke : ((κ : Int) + 1).toNat = κ + 1 := by omega
          have kp : (0 : Int) ≤ (κ : Int) + 1 := by omega
          have kw : IntKind.i64.wrap ((κ : Int) + 1) = (κ : Int) + 1 := by rw [IntKind.wrap_i64]; omega
          clear hO2 hg2 hF0 hF1 hs1 hs2 hK3 hgx hgy
          go_big_region_o
          have hO4 : (((w2.setCell ⟨g2, κ, none⟩ (.int .i32 y)).setCell ⟨g2, κ + 1, none⟩ (.int .i32 x)).drew).ownsRow wr.heap.size 21 1 (.slice (some ⟨g2, 0, none⟩) (0 + n) c2) (0 + n) (cl .i32 LO) := hO3.out
          have hK4 : Below wr.heap.size wr (((w2.setCell ⟨g2, κ, none⟩ (.int .i32 y)).setCell ⟨g2, κ + 1, none⟩ (.int .i32 x)).drew) := HK3.out.drew
          generalize ((w2.setCell ⟨g2, κ, none⟩ (.int .i32 y)).setCell ⟨g2, κ + 1, none⟩ (.int .i32 x)).drew = w3 at hO4 hK4 ⊢
          have hr4 := Row.of_own hO4
          have hl4 := hrl.up hK4
          have hW4 := upB hB hK4
          have ex4 : w3.cell? ⟨bl, ol + κ, none⟩ = some (.int .i32 x) := (hK4.cell (p := ⟨bl, ol + κ, none⟩) hbl).trans ex
          have ey4 : w3.cell? ⟨bl, ol + (κ + 1), none⟩ = some (.int .i32 y) := (hK4.cell (p := ⟨bl, ol + (κ + 1), none⟩) hbl).trans ey
          have hbl4 : bl < w3.heap.size := Nat.lt_of_lt_of_le hbl hK4.size
          have HOX := Lib.hid (fun w => Of_any x w)
          have HOY := Lib.hid (fun w => Of_any y w)
          have HRX := run_ccc (Ucd.of x)
          have HRY := run_ccc (Ucd.of y)
          have HPX : Hid (ccc x = Ucd.g (Ucd.of x) 3) := Lib.hid rfl
          have HPY : Hid (ccc y = Ucd.g (Ucd.of y) 3) := Lib.hid rfl
          generalize Ucd.of x = px at HOX HRX HPX
          generalize Ucd.of y = py at HOY HRY HPY
          clear q0 q1 f0 f1 hO3 HK3 hO4 hK4 ex ey hK2 hgg hg2l hrl hB hk1
          go_upto_region 18 with fail
          go_region_held3 (fun w' => w'.cell? ⟨bl, ol + κ, none⟩ = some (.int .i32 x) ∧ w'.cell? ⟨bl, ol + (κ + 1), none⟩ = some (.int .i32 y)) (first | exact ⟨ex4, ey4⟩) (first
            | (go_at_call_of 20 (Value.int .i32 x); refine (HOX.out _).mono ?_; rintro e w5 ⟨rfl, h5⟩; replace ex4 := (h5.cell (p := ⟨bl, ol + κ, none⟩) hbl4).trans ex4; replace ey4 := (h5.cell (p := ⟨bl, ol + (κ + 1), none⟩) hbl4).trans ey4; have hbl5 := Nat.lt_of_lt_of_le hbl4 h5.size)
            | (go_at_call_of 20 (Value.int .i32 y); refine (HOY.out _).mono ?_; rintro e w6 ⟨rfl, h6⟩; replace ex4 := (h6.cell (p := ⟨bl, ol + κ, none⟩) hbl5).trans ex4; replace ey4 := (h6.cell (p := ⟨bl, ol + (κ + 1), none⟩) hbl5).trans ey4)
            | fail)
          have h5' : Below w3.heap.size w3 w5 := by first | exact h5 | exact below_undrew h5
          have hr6 := (hr4.up h5').up h6
          have hl6 := (hl4.up h5').up h6
          have hW6 := upB (upB hW4 h5') h6
          have hq1 := ccc_pos x
          have hq2 := ccc_pos y
          rw [HPX.out] at hq1 HSW
          rw [HPY.out] at hq2 HSW
          clear h5 h5' h6 hr4 hl4 hW4 ex4 ey4 HOX HOY
          generalize Ucd.g px 3 = qx at HSW hq1 ⊢
          generalize Ucd.g py 3 = qy at HSW hq2 ⊢
          by_cases z1 : 0 < qx
          · by_cases z2 : 0 < qy
            · by_cases z3 : qx = qy
              · have z3b : (qx != qy) = false := by simp [z3]
                clear z3
                go_wp2_with fail
                refine (awake_any _).mono ?_
                rintro e w9 ⟨rfl, hB9⟩
                go_wp2_with fail
                go_ret
                exact ⟨rfl, upB hW6 hB9⟩
              · have z3b : (qx != qy) = true := by simpa using z3
                have hE := HSW.out (by omega) (by omega) z3
                obtain ⟨R, hR⟩ : ∃ R, nfc l = R := ⟨_, rfl⟩
                rw [hR] at hE
                have hRl := nfc_len l HC.out
                rw [hR] at hRl
                have hll := HL.out
                have hRl2 : R.length ≤ 1000 := by omega
                clear hll hRl
                go_wp2_with fail
                refine (NFC_own LO R _ _ _ _ (by have := HLO.out; omega) (by omega) HCO.out hr6 hE).mono ?_
                rintro e w7 ⟨A7, c7, rfl, ho7, hB7⟩
                have hr7 := Row.of_own ho7
                have hl7 := hl6.up hB7
                have hW7 := upB hW6 hB7
                clear ho7 hB7 hr6 hl6 hW6
                go_wp2_with fail
                refine (NFC_own l R _ n _ _ HL.out (by omega) HC.out hl7 hR).mono ?_
                rintro e w8 ⟨A8, c8, rfl, ho8, hB8⟩
                have hr8 := Row.of_own ho8
                have hr78 := hr7.up hB8
                have hW8 := upB hW7 hB8
                clear ho8 hB8 hr7 hl7 hW7
                go_wp2_with fail
                refine (Same_glue R _ _ _ _ _ _ _ rfl rfl (by omega) hr78 hr8).mono ?_
                rintro e w10 ⟨rfl, hB10⟩
                have hW10 := upB hW8 hB10
                go_wp2_with fail
                refine (awake_any _).mono ?_
                rintro e w9 ⟨rfl, hB9⟩
                go_wp2_with fail
                go_ret
                exact ⟨rfl, upB hW10 hB9⟩
            · skip
              go_wp2_with fail
              refine (awake_any _).mono ?_
              rintro e w9 ⟨rfl, hB9⟩
              go_wp2_with fail
              go_ret
              exact ⟨rfl, upB hW6 hB9⟩
          · skip
            go_wp2_with fail
            refine (awake_any _).mono ?_
            rintro e w9 ⟨rfl, hB9⟩
            go_wp2_with fail
            go_ret
            exact ⟨rfl, upB hW6 hB9⟩

/-! From the walk to the given statement. -/
set_option linter.unusedVariables false
theorem own : ownKnob Tryz.prog.godebug = none := by kernel_rfl
theorem laidOut : laidOutB Tryz.prog = true := by kernel_rfl
set_option maxRecDepth 100000 in
theorem lifted (os : Os) (started : os.Started) (H : Type) (enc : TypeId × Value → H) :
    ReturnsInHanded {} Tryz.checked os 5 .any (fun w args => (Rows.normOrderSpec.pre enc Tryz.prog Tryz.f5 [] false w args ∧ laidMetH Tryz.prog Rows.normOrderRow.laid w) ∧ sizedMet enc Tryz.prog Tryz.f5 (OpenSpec.ofChange Rows.normOrderSpec) false w args)
      (Rows.normOrderSpec.post enc Tryz.prog Tryz.f5 false true false false) := by
  refine returnsInHanded_of_change_and (C := Tryz.checked) (X := fun w _ => laidMetH Tryz.prog Rows.normOrderRow.laid w) (fun _ _ _ hh h => h.of_heap hh) own started (by kernel_rfl) Tryz.func5
    (ChangeSpec.witness_shaped (enc := enc) (C := Tryz.checked) (os := os) (X := fun w _ => laidMetH Tryz.prog Rows.normOrderRow.laid w) false (World.laidAll Tryz.prog os Rows.normOrderRow.laid) #[.slice none 0 0, .int .u8 0] 8 (World.laidAll_os _ _ _)
      (World.shaped_of_ZipB (by kernel_rfl) (by kernel_rfl)) (by kernel_rfl) (by kernel_rfl) (by kernel_rfl)
      (by rw [MakeChecks.laidMetH_plain _ _ _ (by kernel_rfl)]; exact laidMet_laidAll _ (by kernel_rfl) (by kernel_rfl))) ?_
  intro W base args ds gs before hval0 hW _ _ hL _
  have hval : ∀ (j : Nat) t v, Tryz.f5.params[j]? = some t → args[j]? = some v → Value.okWide Tryz.prog W .any base t v := hval0
  have hW' := hW
  obtain ⟨p, q, hA0, hV, rfl, _, _⟩ := hW
  have hA : DataW.TrodAll enc Tryz.prog W 0 (fun _ => true) true Tryz.f5.params.toList args.toList ds p := hA0
  rw [Tryz.params5] at hA hval
  obtain ⟨v0, vs0, d0, ds0, p0, q0, hargs, rfl, rfl, h0, r0⟩ := trodAll_cons hA
  obtain ⟨v1, vs1, d1, ds1, p1, q1, rfl, rfl, rfl, h1, r1⟩ := trodAll_cons r0
  obtain ⟨rfl, rfl, rfl⟩ := trodAll_nil r1
  obtain rfl : args = #[v0, v1] := by cases args; simp_all
  obtain ⟨rfl, rfl⟩ := trodVars_none hV
  obtain ⟨a0, len0, cap0, rfl⟩ := okWide_slice Tryz.underlying22 (hval 0 22 v0 rfl rfl)
  have k0 := h0
  have lt0 : ∀ x ∈ p0, x.block < W.heap.size := by obtain ⟨m, hm⟩ := k0; exact DataW.trod_lt m _ _ _ hm
  obtain ⟨z0, w0⟩ := in_row Tryz.underlying22 Tryz.underlying21 (by kernel_rfl) h0
  obtain ⟨a1, rfl, rfl, rfl, w1⟩ := open_int Tryz.underlying5 (hval 1 5 v1 rfl rfl) h1
  have b1 : 0 ≤ a1 ∧ a1 ≤ 255 := by simpa [Lit.wf, IntKind.min, IntKind.max, IntKind.signed, IntKind.bits] using w1
  clear hA0 hval0
  refine (walk a0 len0 cap0 z0 a1 W w0 b1.1 b1.2).mono fun e W' ⟨he, bel⟩ => ?_
  subst he
  exact ⟨_, rfl, _, _, _, [], _, [], hW', trodAll_mk1 (shut_bool Tryz.underlying4 _), (trodAll_cons_mk (Below.trod laidOut (by kernel_rfl) (of_decide_eq_true (by kernel_rfl)) k0 bel lt0) (trodAll_cons_mk (shut_int Tryz.underlying5 w1) trodAll_mk0)), rfl, bel.frame _, fun h => by cases h⟩

theorem row_holds : Rows.NormOrderSaid :=
  OpenClaim.holds_of_wide 5 Tryz.f5 rfl rfl rfl rfl rfl rfl rfl ⟨rfl, rfl, rfl, rfl, rfl⟩ rfl rfl rfl rfl rfl (by kernel_rfl) Tryz.func5 (by kernel_rfl)
    (of_decide_eq_true (by kernel_rfl)) (by unfold Func.isWrapper; first | (rw [if_pos (by decide +kernel)]; kernel_rfl) | (rw [if_neg (by decide +kernel)]; exact ⟨rfl, rfl⟩))
    (fun os started H enc _ => lifted os started H enc)

theorem proved : Rows.NormOrderCardSaid :=
  Claim7.holds_tied_plain_at .later [] [.data, .data, .data, .data, .sentinel, .sentinel, .pinned] true (true,"42a97f228551bc89a256fe65bf60eb17b654701c6bd6ee727805ac1dfa6e97bd") true
    row_holds (fun _ h => by cases h) (by kernel_rfl) (fun _ h => by cases h) normOrder_row_tie rfl ⟨rfl, rfl⟩ (by kernel_rfl) rfl
    (fun f fn hf hfn => by
      obtain rfl : f = 5 := Option.some.inj ((show Tryz.prog.funcNamed "fascia/fascialaw05.NormOrder" = some 5 by kernel_rfl).symm.trans hf) |>.symm
      obtain rfl : fn = Tryz.f5 := (Option.some.inj (Tryz.func5.symm.trans hfn)).symm
      exact ⟨by kernel_rfl, fun j t ht => by
        rw [Tryz.params5] at ht
        have hm : t ∈ [22, 5] := by simpa using Array.mem_of_getElem? ht
        have hall : ([22, 5].all fun u => !Tryz.prog.wantsStandIn u) = true := by kernel_rfl
        exact (show Tryz.prog.wantsStandIn t = false by simpa using List.all_eq_true.1 hall t hm)⟩)
    (by kernel_rfl)
end Go.Proofs.YtncnagagigalhaaGreatDoor.normOrder
