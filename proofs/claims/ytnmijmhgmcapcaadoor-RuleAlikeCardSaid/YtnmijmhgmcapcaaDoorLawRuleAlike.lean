/-
  For any label (up to 100), any numbers that pick others of the same classes: whether a label fails, and by what, hangs on the classes alone (fascialaw09.RuleAlike answers true). No condition.
-/
import Derived.Test.YtnmijmhgmcapcaaDoorRulK
import Derived.Test.YtnmijmhgmcapcaaDoorFrame
import Derived.Deep.DeepCutAuto
import Derived.Deep.RegionHeld3
import Derived.Test.YtnmijmhgmcapcaaDoorTie
import Derived.Test.YtnmijmhgmcapcaaDoorCards
import Derived.ProofKit
import Derived.Lay
import Derived.Stop.Joined
import Derived.SevenTiedAt
namespace Go.Proofs.YtnmijmhgmcapcaaDoor.ruleAlike
open Go.ChangeShapes Go.WideShapes Go.ChangeAt Go.RowKit Rul Ucd

theorem wf8 {zs : List Int} (h : ∀ n ∈ zs, (Lit.int .u8 n).wf = true) : ∀ x ∈ zs, 0 ≤ x ∧ x ≤ 255 := fun x hx => by
  have := h x hx
  simp [Lit.wf, IntKind.min, IntKind.max, IntKind.bits, IntKind.signed] at this
  omega
set_option maxRecDepth 100000 in
set_option maxHeartbeats 4000000 in
theorem walk (A : Option Addr) (n cap : Nat) (l : List Int) (A2 : Option Addr) (n2 cap2 : Nat) (ps : List Int) (w : World) (hin : InRow .i32 w A n cap l) (hin2 : InRow .u8 w A2 n2 cap2 ps) : Calls Tryd.prog 6 #[.slice A n cap, .slice A2 n2 cap2] w fun e w' => e = .returned (.bool true) ∧ Below w.heap.size w w' := by
  obtain ⟨hlen, hcap, _, hrow, hwf⟩ := hin
  obtain ⟨hlen2, hcap2, hmax2, hrow2, hwf2⟩ := hin2
  obtain ⟨i0, hi, hzz0, hzz1, hzz2⟩ := info_split info_int32
  have HAW := Lib.hid awake9_any
  by_cases h100 : 100 < n
  · have h100z : (100 : Int) < (n : Int) := by omega
    clear hrow hlen hwf hrow2 hlen2 hwf2
    go_enter Tryd.func6, Tryd.ntmps6
    go_wp2_with (first | (go_at_call 12; refine (HAW.out _).mono ?_; rintro e w90 ⟨rfl, hB90⟩) | fail)
    go_ret
    exact ⟨rfl, hB90⟩
  · have h100z : ¬ (100 : Int) < (n : Int) := by omega
    have hn1 : n ≤ 100 := by omega
    have HN := Lib.hid hlen
    have HN2 := Lib.hid hlen2
    have H8 := Lib.hid (wf8 hwf2)
    clear hlen hwf hlen2 hwf2
    go_enter Tryd.func6, Tryd.ntmps6
    go_wp2_with (first | (go_at_call 14; refine (Table_out _).mono ?_; rintro e w1 ⟨gt, tc, rfl, htc, hgt, hT, hB1⟩) | fail)
    have hR1 := upR hrow hB1
    have hP1 := upR hrow2 hB1
    have HT := Lib.hid hT
    have HK := Lib.hid (fun W (h : Below w1.heap.size w1 W) => Check_any l A n cap W HN.out (by omega) (upR hR1 h))
    have HX := Lib.hid (fun W (h : Below w1.heap.size w1 W) => Bidi_any l A n cap W HN.out (by omega) (upR hR1 h))
    clear hT hrow hrow2
    go_loopg [6, 18] n (fun m s6 s18 wr => ∃ (k c : Nat) (R : List Int) (B : Option Addr), s18 = .int .i64 (k : Int) ∧ s6 = .slice B k c ∧ m = n - k ∧ k ≤ n ∧ Hid (R.length = k) ∧ Hid (R.map bc = (l.take k).map bc) ∧ Below w1.heap.size w1 wr ∧ wr.ownsRow w1.heap.size 21 1 (.slice B k c) k (cl .i32 R))
    case atStart => exact ⟨0, 0, [], none, rfl, rfl, rfl, Nat.zero_le _, Lib.hid rfl, Lib.hid rfl, Below.refl _ _, World.ownsRow_nil w1 w1.heap.size 21 1⟩
    case round =>
      obtain ⟨k, c, R, B, rfl, rfl, rfl, hk, HRL, HRM, hB, hO⟩ := hrel
      by_cases hlt : k < n
      · have hltz : (k : Int) < (n : Int) := by omega
        have hkz : (0 : Int) ≤ (k : Int) := by omega
        obtain ⟨b, o, rfl, hb', hcc⟩ := (hR1.below hB).at_ (by have := HN.out; rw [List.length_map]; omega)
        have c0 := row_cell hcc k (by rw [HN.out]; exact hlt)
        have HRS := Lib.hid (fun r (h : bc r = bc l[k]!) => like_snoc (r := r) HRM.out (by rw [HN.out]; exact hlt) h)
        obtain ⟨r, hr0⟩ : ∃ r, l[k]! = r := ⟨_, rfl⟩
        rw [hr0] at c0 HRS
        have HO := Lib.hid (fun w => Of_any r w)
        have HF := fld1 (of r)
        have HY : Hid (bc r = g (of r) 1) := Lib.hid rfl
        generalize of r = p at HO HF HY
        obtain ⟨y, hy⟩ : ∃ y, g p 1 = y := ⟨_, rfl⟩
        rw [hy] at HF HY
        clear hcc hr0 hy
        by_cases hp : k < n2
        · have hpz : (k : Int) < (n2 : Int) := by omega
          obtain ⟨b2, o2, rfl, hb2', hcc2⟩ := hP1.at_ (by have := HN2.out; rw [List.length_map]; omega)
          have d0 := row_cell8' hcc2 k (by rw [HN2.out]; exact hp)
          have hpb := H8.out _ (mems (l := ps) (i := k) (by rw [HN2.out]; exact hp))
          obtain ⟨v, hv⟩ : ∃ v, ps[k]! = v := ⟨_, rfl⟩
          rw [hv] at d0 hpb
          clear hcc2 hv
          go_wp2_with fail
          go_loopg [8, 29] 166 (fun m s8 s29 W => ∃ q : Nat, s29 = .int .i64 (q : Int) ∧ s8 = .int .i32 r ∧ m = 166 - q ∧ q ≤ 166 ∧ Below w1.heap.size w1 W ∧ Below wr.heap.size wr W ∧ W.ownsRow w1.heap.size 21 1 (.slice B k c) k (cl .i32 R))
          case atStart => exact ⟨0, rfl, rfl, rfl, Nat.zero_le _, hB, Below.refl _ _, hO⟩
          case round =>
            obtain ⟨q, rfl, rfl, rfl, hq, hBi, hBr, hOi⟩ := hrel
            by_cases hq6 : q < 166
            · have hqz : (q : Int) < 166 := by omega
              obtain ⟨e, he⟩ : ∃ e : Nat, ((q : Int) + v) % 166 = (e : Int) := ⟨(((q : Int) + v) % 166).toNat, by omega⟩
              have he6 : e < 166 := by omega
              have hwv : IntKind.i64.wrap v = v := IntWalk.i64_in _ (by omega)
              have hwq : IntKind.i64.wrap ((q : Int) + v) = (q : Int) + v := IntWalk.i64_in _ (by omega)
              have het : ((q : Int) + v).tmod 166 = (e : Int) := by rw [Int.tmod_eq_emod_of_nonneg (by omega)]; exact he
              have he0 : (0 : Int) ≤ (e : Int) := by omega
              have he1 : (e : Int) < 166 := by omega
              have d1 := (hBr.cell (p := ⟨b2, o2 + k, none⟩) (Nat.lt_of_lt_of_le hb2' hB.size)).trans ((hB.cell (p := ⟨b2, o2 + k, none⟩) hb2').trans d0)
              obtain ⟨t0, t1, t2, t3, t4, t5, t6, t7, t8⟩ := (HT.out.go hBi).cells e he6
              have HBC := Lib.hid (bc_fr he6)
              generalize fr e = fe at t0 HBC
              generalize Ucd.to e = te at t1
              generalize pr e = pe at t2 t3 t4 t5 t6 t7 t8 HBC
              go_upto_region 13 with fail
              obtain ⟨W1, hW1⟩ : ∃ W1, wr.alloc (.cells #[.int .i32 fe, .int .i32 te, .int .u8 (g pe 0), .int .u8 (g pe 1), .int .u8 (g pe 2), .int .u8 (g pe 3), .int .u8 (g pe 4), .int .u8 (g pe 5), .int .u8 (g pe 6)] 35) = W1 := ⟨_, rfl⟩
              obtain ⟨x0, x3, hbW, hsW⟩ := nine wr fe te pe W1 hW1
              rw [hW1]
              clear hW1 t0 t1 t2 t3 t4 t5 t6 t7 t8 d0 d1 c0 hwv hwq het he he0 he1 he6
              have hBi1 := upB hBi hbW
              have hBr1 := upB hBr hbW
              have hOi1 := own_below hOi hbW
              generalize wr.heap.size = X at x0 x3 hsW ⊢
              generalize g pe 1 = z at x3 HBC
              clear hBi hBr hOi hbW
              by_cases hzy : z = y
              · have hzb : (z == y) = true := by simpa using hzy
                have HZY : Hid (bc fe = bc r) := Lib.hid (by rw [HBC.out, hzy]; exact HY.out.symm)
                clear hzy
                go_region_held3 (fun w' => w'.cell? ⟨X, 3, none⟩ = some (.int .u8 z)) (first | exact x3 | assumption) (first | (go_at_call 13; refine (HO.out _).mono ?_; rintro e' w2 ⟨rfl, hb2⟩; have z3 : w2.cell? ⟨X, 3, none⟩ = some (.int .u8 z) := (hb2.cell (p := ⟨X, 3, none⟩) hsW).trans x3))
                have hb2' := below_drew hb2
                have z0 : w2.cell? ⟨X, 0, none⟩ = some (.int .i32 fe) := (hb2'.cell (p := ⟨X, 0, none⟩) hsW).trans x0
                have hB2 := upB hBi1 hb2'
                have hO2 := own_below hOi1 hb2'
                go_upto_region 17 with (first
                  | (at_builtin; refine wpList_append_row _ rfl _ _ 22 rfl w1.heap.size 21 i0 (.int .i32 0) 1 4 Tryd.underlying22 hi hzz0 hzz1 hzz2 rfl (by decide) _ k _ rfl (hO2.alloc _) _ _ 1 1 [.int .i32 fe] rfl rfl (row_new _ _ _ _ rfl) (by simp [Value.oneCell']) (by unfold maxLen; omega) (by omega) (hB2.alloc hB2.size _).size ?_; intro v4 w4 hO4 hg4; have hB4 := (hB2.alloc hB2.size _).grown hg4 (hB2.alloc hB2.size _).size (fun j e => (hO2.lt j e).1); obtain ⟨A4, c4, hv4, _, _⟩ := own_form hO4; subst hv4)
                  | fail)
                go_wp2_with fail
                go_roundg (n - (k + 1))
                case measure => omega
                case rel => exact ⟨k + 1, c4, R ++ [fe], A4, by go_num, rfl, rfl, by omega, Lib.hid (by rw [List.length_append, HRL.out]; rfl), Lib.hid (HRS.out fe HZY.out), hB4, by rw [cl_snoc]; exact hO4⟩
              · have hzb : (z == y) = false := by simpa using hzy
                clear hzy
                go_region_held3 (fun w' => w'.cell? ⟨X, 3, none⟩ = some (.int .u8 z)) (first | exact x3 | assumption) (first | (go_at_call 13; refine (HO.out _).mono ?_; rintro e' w2 ⟨rfl, hb2⟩; have z3 : w2.cell? ⟨X, 3, none⟩ = some (.int .u8 z) := (hb2.cell (p := ⟨X, 3, none⟩) hsW).trans x3))
                have hb2' := below_drew hb2
                go_wp2_with fail
                go_roundg (166 - (q + 1))
                case measure => omega
                case rel => exact ⟨q + 1, by go_num, rfl, rfl, by omega, upB hBi1 hb2', upB hBr1 hb2', own_below hOi1 hb2'⟩
            · obtain rfl : q = 166 := by omega
              go_upto_region 17 with (first
                | (at_builtin; refine wpList_append_row _ rfl _ _ 22 rfl w1.heap.size 21 i0 (.int .i32 0) 1 4 Tryd.underlying22 hi hzz0 hzz1 hzz2 rfl (by decide) _ k _ rfl (hOi.alloc _) _ _ 1 1 [.int .i32 r] rfl rfl (row_new _ _ _ _ rfl) (by simp [Value.oneCell']) (by unfold maxLen; omega) (by omega) (hBi.alloc hBi.size _).size ?_; intro v4 w4 hO4 hg4; have hB4 := (hBi.alloc hBi.size _).grown hg4 (hBi.alloc hBi.size _).size (fun j e => (hOi.lt j e).1); obtain ⟨A4, c4, hv4, _, _⟩ := own_form hO4; subst hv4)
                | fail)
              go_wp2_with fail
              go_roundg (n - (k + 1))
              case measure => omega
              case rel => exact ⟨k + 1, c4, R ++ [r], A4, by go_num, rfl, rfl, by omega, Lib.hid (by rw [List.length_append, HRL.out]; rfl), Lib.hid (HRS.out r rfl), hB4, by rw [cl_snoc]; exact hO4⟩
        · have hpz : ¬ (k : Int) < (n2 : Int) := by omega
          go_upto_region 17 with (first
            | (at_builtin; refine wpList_append_row _ rfl _ _ 22 rfl w1.heap.size 21 i0 (.int .i32 0) 1 4 Tryd.underlying22 hi hzz0 hzz1 hzz2 rfl (by decide) _ k _ rfl (hO.alloc _) _ _ 1 1 [.int .i32 r] rfl rfl (row_new _ _ _ _ rfl) (by simp [Value.oneCell']) (by unfold maxLen; omega) (by omega) (hB.alloc hB.size _).size ?_; intro v4 w4 hO4 hg4; have hB4 := (hB.alloc hB.size _).grown hg4 (hB.alloc hB.size _).size (fun j e => (hO.lt j e).1); obtain ⟨A4, c4, hv4, _, _⟩ := own_form hO4; subst hv4)
            | fail)
          go_wp2_with fail
          go_roundg (n - (k + 1))
          case measure => omega
          case rel => exact ⟨k + 1, c4, R ++ [r], A4, by go_num, rfl, rfl, by omega, Lib.hid (by rw [List.length_append, HRL.out]; rfl), Lib.hid (HRS.out r rfl), hB4, by rw [cl_snoc]; exact hO4⟩
      · obtain rfl : k = n := by omega
        have hltz : ¬ ((k : Nat) : Int) < (k : Int) := by omega
        have HM2 : Hid (R.map bc = l.map bc) := Lib.hid (by rw [HRM.out, List.take_of_length_le (by rw [HN.out]; exact Nat.le_refl _)])
        have HF : Hid (∀ W, Below wr.heap.size wr W → Calls Tryd.prog 10 #[.slice B k c] W (Tells (.int .u8 (chk l)) W) ∧ Calls Tryd.prog 8 #[.slice B k c] W (IsB (bid l) W)) := Lib.hid (fun W hW => by
          have h1 := Check_any R B k c W HRL.out (by omega) (upR (own_row hO) hW)
          have h2 := Bidi_any R B k c W HRL.out (by omega) (upR (own_row hO) hW)
          rw [chk_like HM2.out] at h1
          rw [bid_like HM2.out] at h2
          exact ⟨h1, h2⟩)
        have HFC := Lib.hid (fun W h => (HF.out W h).1)
        have HFB := Lib.hid (fun W h => (HF.out W h).2)
        have hW5 : Below wr.heap.size wr wr := Below.refl _ _
        generalize chk l = y at HK HFC
        generalize bid l = x at HX HFB
        have hxx : (x == x) = true := by simp
        have hyy : (y == y) = true := by simp
        clear hO HF HM2 HRM
        go_wp2_with (first
          | (go_at_call 10; refine (HK.out _ hC6).mono ?_; rintro e w7 ⟨rfl, hB7⟩; have hC7 := upB hC6 hB7; have hW7 := upB hW6 hB7)
          | (go_at_call 10; refine (HFC.out _ hW5).mono ?_; rintro e w6 ⟨rfl, hB6⟩; have hC6 := upB hB hB6; have hW6 := upB hW5 hB6)
          | (go_at_call 8; refine (HX.out _ hC8).mono ?_; rintro e w9 ⟨rfl, hB9⟩; have hC9 := upB hC8 hB9)
          | (go_at_call 8; refine (HFB.out _ hW7).mono ?_; rintro e w8 ⟨rfl, hB8⟩; have hC8 := upB hC7 hB8)
          | (go_at_call 12; refine (HAW.out _).mono ?_; rintro e w90 ⟨rfl, hB90⟩)
          | fail)
        go_ret
        exact ⟨rfl, upB hB1 (upB hC9 hB90)⟩

/-! From the walk to the given statement. -/
set_option linter.unusedVariables false
theorem own : ownKnob Tryd.prog.godebug = none := by kernel_rfl
theorem laidOut : laidOutB Tryd.prog = true := by kernel_rfl
set_option maxRecDepth 100000 in
theorem lifted (os : Os) (started : os.Started) (H : Type) (enc : TypeId × Value → H) :
    ReturnsInHanded {} Tryd.checked os 6 .any (fun w args => (Rows.ruleAlikeSpec.pre enc Tryd.prog Tryd.f6 [] false w args ∧ laidMetH Tryd.prog Rows.ruleAlikeRow.laid w) ∧ sizedMet enc Tryd.prog Tryd.f6 (OpenSpec.ofChange Rows.ruleAlikeSpec) false w args)
      (Rows.ruleAlikeSpec.post enc Tryd.prog Tryd.f6 false true false false) := by
  refine returnsInHanded_of_change_and (C := Tryd.checked) (X := fun w _ => laidMetH Tryd.prog Rows.ruleAlikeRow.laid w) (fun _ _ _ hh h => h.of_heap hh) own started (by kernel_rfl) Tryd.func6
    (ChangeSpec.witness_shaped (enc := enc) (C := Tryd.checked) (os := os) (X := fun w _ => laidMetH Tryd.prog Rows.ruleAlikeRow.laid w) false (World.laidAll Tryd.prog os Rows.ruleAlikeRow.laid) #[.slice none 0 0, .slice none 0 0] 8 (World.laidAll_os _ _ _)
      (World.shaped_of_ZipB (by kernel_rfl) (by kernel_rfl)) (by kernel_rfl) (by kernel_rfl) (by kernel_rfl)
      (by rw [MakeChecks.laidMetH_plain _ _ _ (by kernel_rfl)]; exact laidMet_laidAll _ (by kernel_rfl) (by kernel_rfl))) ?_
  intro W base args ds gs before hval0 hW _ _ hL _
  have hval : ∀ (j : Nat) t v, Tryd.f6.params[j]? = some t → args[j]? = some v → Value.okWide Tryd.prog W .any base t v := hval0
  have hW' := hW
  obtain ⟨p, q, hA0, hV, rfl, _, _⟩ := hW
  have hA : DataW.TrodAll enc Tryd.prog W 0 (fun _ => true) true Tryd.f6.params.toList args.toList ds p := hA0
  rw [Tryd.params6] at hA hval
  obtain ⟨v0, vs0, d0, ds0, p0, q0, hargs, rfl, rfl, h0, r0⟩ := trodAll_cons hA
  obtain ⟨v1, vs1, d1, ds1, p1, q1, rfl, rfl, rfl, h1, r1⟩ := trodAll_cons r0
  obtain ⟨rfl, rfl, rfl⟩ := trodAll_nil r1
  obtain rfl : args = #[v0, v1] := by cases args; simp_all
  obtain ⟨rfl, rfl⟩ := trodVars_none hV
  obtain ⟨a0, len0, cap0, rfl⟩ := okWide_slice Tryd.underlying22 (hval 0 22 v0 rfl rfl)
  have k0 := h0
  have lt0 : ∀ x ∈ p0, x.block < W.heap.size := by obtain ⟨m, hm⟩ := k0; exact DataW.trod_lt m _ _ _ hm
  obtain ⟨z0, w0⟩ := in_row Tryd.underlying22 Tryd.underlying21 (by kernel_rfl) h0
  obtain ⟨a1, len1, cap1, rfl⟩ := okWide_slice Tryd.underlying31 (hval 1 31 v1 rfl rfl)
  have k1 := h1
  have lt1 : ∀ x ∈ p1, x.block < W.heap.size := by obtain ⟨m, hm⟩ := k1; exact DataW.trod_lt m _ _ _ hm
  obtain ⟨z1, w1⟩ := in_row Tryd.underlying31 Tryd.underlying5 (by kernel_rfl) h1
  clear hA0 hval0
  refine (walk a0 len0 cap0 z0 a1 len1 cap1 z1 W w0 w1).mono fun e W' ⟨he, bel⟩ => ?_
  subst he
  exact ⟨_, rfl, _, _, _, [], _, [], hW', trodAll_mk1 (shut_bool Tryd.underlying4 _), (trodAll_cons_mk (Below.trod laidOut (by kernel_rfl) (of_decide_eq_true (by kernel_rfl)) k0 bel lt0) (trodAll_cons_mk (Below.trod laidOut (by kernel_rfl) (of_decide_eq_true (by kernel_rfl)) k1 bel lt1) trodAll_mk0)), rfl, bel.frame _, fun h => by cases h⟩

theorem row_holds : Rows.RuleAlikeSaid :=
  OpenClaim.holds_of_wide 6 Tryd.f6 rfl rfl rfl rfl rfl rfl rfl ⟨rfl, rfl, rfl, rfl, rfl⟩ rfl rfl rfl rfl rfl (by kernel_rfl) Tryd.func6 (by kernel_rfl)
    (of_decide_eq_true (by kernel_rfl)) (by unfold Func.isWrapper; first | (rw [if_pos (by decide +kernel)]; kernel_rfl) | (rw [if_neg (by decide +kernel)]; exact ⟨rfl, rfl⟩))
    (fun os started H enc _ => lifted os started H enc)

theorem proved : Rows.RuleAlikeCardSaid :=
  Claim7.holds_tied_plain_at .later [] [.data, .data, .data, .data, .sentinel, .sentinel, .pinned] true (true, "11b533845e9e544cec4b62e8985955972a5f82d67a6ca1eb3e2cab17f2da9285") true
    row_holds (fun _ h => by cases h) (by kernel_rfl) (fun _ h => by cases h) ruleAlike_row_tie rfl ⟨rfl, rfl⟩ (by kernel_rfl) rfl
    (fun f fn hf hfn => by
      obtain rfl : f = 6 := Option.some.inj ((show Tryd.prog.funcNamed "fascia/fascialaw09.RuleAlike" = some 6 by kernel_rfl).symm.trans hf) |>.symm
      obtain rfl : fn = Tryd.f6 := (Option.some.inj (Tryd.func6.symm.trans hfn)).symm
      exact ⟨by kernel_rfl, fun j t ht => by
        rw [Tryd.params6] at ht
        have hm : t ∈ [22, 31] := by simpa using Array.mem_of_getElem? ht
        have hall : ([22, 31].all fun u => !Tryd.prog.wantsStandIn u) = true := by kernel_rfl
        exact (show Tryd.prog.wantsStandIn t = false by simpa using List.all_eq_true.1 hall t hm)⟩)
    (by kernel_rfl)
end Go.Proofs.YtnmijmhgmcapcaaDoor.ruleAlike
