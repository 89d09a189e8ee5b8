/-
  For any label (up to 200): one without code points that ask for others fails nothing; who is none of these may stand anywhere; and a label fails nothing just if none of its places does (fascialaw08.ContextPlain answers true). No condition.
-/
import Derived.Test.YtmeihnhghdmjiaaDoorCtxJ
import Derived.Test.YtmeihnhghdmjiaaDoorFrame
import Derived.Maps.AppendAt
import Derived.Test.YtmeihnhghdmjiaaDoorTie
import Derived.Test.YtmeihnhghdmjiaaDoorCards
import Derived.ProofKit
import Derived.Lay
import Derived.Stop.Joined
import Derived.SevenTiedAt
namespace Go.Proofs.YtmeihnhghdmjiaaDoor.contextPlain
open Go.ChangeShapes Go.WideShapes Go.ChangeAt Go.RowKit Ctx Ucd

theorem in_c32 {zs : List Int} (h : ∀ n ∈ zs, (Lit.int .i32 n).wf = true) : C32 zs := fun x hx => by
  have := h x hx
  simp [Lit.wf, IntKind.min, IntKind.max, IntKind.bits, IntKind.signed] at this
  omega
/-- what is known of the first clause, of k places -/
def Fst (l : List Int) (k : Nat) (f : Int) : Prop := (f = 0 ∧ ∀ j, j < k → atC l j = 0) ∨ (f ≠ 0 ∧ chkC l = f)
theorem fst_end {l : List Int} {f : Int} (h : Fst l l.length f) : chkC l = f := by
  rcases h with ⟨h0, h⟩ | ⟨_, h⟩
  · rw [h0]; exact chk_none h
  · exact h
theorem fst_keep {l : List Int} {k : Nat} {f : Int} (h : Fst l k f) (hf : f ≠ 0) : Fst l (k + 1) f := .inr ⟨hf, (h.resolve_left (fun x => hf x.1)).2⟩
theorem fst_zero {l : List Int} {k : Nat} (h : Fst l k 0) (hc : atC l k = 0) : Fst l (k + 1) 0 := by
  rcases h with ⟨_, h⟩ | ⟨h, _⟩
  · refine .inl ⟨rfl, fun j hj => ?_⟩
    by_cases e : j = k
    · rw [e]; exact hc
    · exact h j (by omega)
  · exact absurd rfl h
theorem fst_now {l : List Int} {k : Nat} {c : Int} (h : Fst l k 0) (hk : k < l.length) (hc : atC l k = c) (h0 : c ≠ 0) : Fst l (k + 1) c := by
  rcases h with ⟨_, h⟩ | ⟨h, _⟩
  · exact .inr ⟨h0, by rw [chk_at hk (by rw [hc]; exact h0) h, hc]⟩
  · exact absurd rfl h
theorem c32_snoc {R : List Int} {r : Int} (h : C32 R) (hr : -2147483648 ≤ r ∧ r ≤ 2147483647) : C32 (R ++ [r]) := fun x hx => by
  rcases List.mem_append.1 hx with h1 | h1
  · exact h x h1
  · rw [List.mem_singleton] at h1; rw [h1]; exact hr
theorem plain_snoc {R : List Int} {r : Int} (h : ∀ x ∈ R, ¬ kd x < 8) (hr : ¬ kd r < 8) : ∀ x ∈ R ++ [r], ¬ kd x < 8 := fun x hx => by
  rcases List.mem_append.1 hx with h1 | h1
  · exact h x h1
  · rw [List.mem_singleton] at h1; rw [h1]; exact hr
theorem cl_snoc (R : List Int) (r : Int) : cl .i32 (R ++ [r]) = cl .i32 R ++ [.int .i32 r] := by simp [cl]
theorem own_row {w : World} {base : Nat} {e : TypeId} {size n m c : Nat} {A : Option Addr} {xs : List Value} (h : w.ownsRow base e size (.slice A m c) n xs) : Row w w.heap.size A xs := by
  obtain ⟨A1, c1, hv, _, hr⟩ := own_form h
  cases hv
  exact hr
set_option maxRecDepth 100000 in
set_option maxHeartbeats 4000000 in
theorem walk (A : Option Addr) (n cap : Nat) (l : List Int) (w : World) (hin : InRow .i32 w A n cap l) : Calls Tryd.prog 3 #[.slice A n cap] w fun e w' => e = .returned (.bool true) ∧ Below w.heap.size w w' := by
  obtain ⟨hlen, _, _, hrow, hwf⟩ := hin
  obtain ⟨i0, hi, hzz0, hzz1, hzz2⟩ := info_split info_int32
  have HAW := Lib.hid awake8_any
  by_cases h200 : 200 < n
  · have h200z : (200 : Int) < (n : Int) := by omega
    go_enter Tryd.func3, Tryd.ntmps3
    go_wp2_with (first | (go_at_call 7; refine (HAW.out _).mono ?_; rintro e w90 ⟨rfl, hB90⟩) | fail)
    go_ret
    exact ⟨rfl, hB90⟩
  · have h200z : ¬ (200 : Int) < (n : Int) := by omega
    have HN := Lib.hid hlen
    have HC := Lib.hid (in_c32 hwf)
    have hn2 : n ≤ 200 := by omega
    clear hlen hwf
    go_enter Tryd.func3, Tryd.ntmps3
    go_wp2_with fail
    go_loopg [3, 4, 14] n (fun m s3 s4 s14 wr => ∃ (k : Nat) (R : List Int) (N c : Nat) (B : Option Addr) (f : Int), s14 = .int .i64 (k : Int) ∧ s3 = .slice B N c ∧ s4 = .int .u8 f ∧ m = n - k ∧ k ≤ n ∧ N ≤ k ∧ Hid (R.length = N) ∧ Hid (C32 R) ∧ Hid (∀ x ∈ R, ¬ kd x < 8) ∧ Hid (Fst l k f) ∧ Below w.heap.size w wr ∧ wr.ownsRow w.heap.size 21 1 (.slice B N c) N (cl .i32 R))
    case atStart => exact ⟨0, [], 0, 0, none, 0, rfl, rfl, rfl, rfl, Nat.zero_le _, Nat.zero_le _, Lib.hid rfl, Lib.hid (fun x h => by simp at h), Lib.hid (fun x h => by simp at h), Lib.hid (.inl ⟨rfl, fun j hj => absurd hj (Nat.not_lt_zero _)⟩), Below.refl _ _, World.ownsRow_nil w w.heap.size 21 1⟩
    case round =>
      obtain ⟨k, R, N, c, B, f, rfl, rfl, rfl, rfl, hk, hNk, HRL, HRC, HRK, HF, hB, hO⟩ := hrel
      by_cases hlt : k < n
      · have hltz : (k : Int) < (n : Int) := by omega
        obtain ⟨b, o, rfl, hb, hcc⟩ := (hrow.below hB).at_ (by have := HN.out; simp; omega)
        have c0 := row_cell hcc k (by rw [HN.out]; exact hlt)
        have HA := Lib.hid (fun W (h : Below w.heap.size w W) => At_any l k _ _ cap W HN.out hlt (by omega) HC.out (upR hrow h))
        have hcs := atC_cases l k
        have HRX : Hid (-2147483648 ≤ l[k]! ∧ l[k]! ≤ 2147483647) := Lib.hid (HC.out _ (mems (by rw [HN.out]; exact hlt)))
        obtain ⟨x, hx⟩ : ∃ x, atC l k = x := ⟨_, rfl⟩
        have HX := Lib.hid hx
        obtain ⟨r, hr0⟩ : ∃ r, l[k]! = r := ⟨_, rfl⟩
        rw [hr0] at c0 hcs HRX
        rw [hx] at hcs HA
        have HK := Lib.hid (asks_any r)
        have HKK : Hid (∀ q, decide (kd r < 8) = q → (q = false → ¬ kd r < 8)) := Lib.hid (fun q e h => of_decide_eq_false (e.trans h))
        clear hcc hr0 hx
        rcases hcs with ⟨h8, h0⟩ | ⟨h8, h0⟩
        · subst h0
          rw [decide_eq_false h8] at HK
          have HR8 := Lib.hid h8
          clear h8 HKK
          go_upto_region 10 with (first
            | (go_at_call 8; refine (HA.out _ hB).mono ?_; rintro e w1 ⟨rfl, hB1⟩)
            | (go_at_call 9; refine (HK.out _).mono ?_; rintro e w2 ⟨rfl, hB2⟩; have hb12 := upB hB1 hB2; have hB3 := hB.trans (hb12.mono hB.size); have hO3 := own_below hO hb12)
            | fail)
          go_upto_region 11 with (at_builtin; (refine wpList_append_row _ rfl _ _ 22 rfl w.heap.size 21 i0 (.int .i32 0) 1 4 Tryd.underlying22 hi hzz0 hzz1 hzz2 rfl (by decide) _ _ _ rfl (hO3.alloc _) _ _ 1 1 [.int .i32 r] rfl rfl (row_new _ _ _ _ rfl) (by simp [Value.oneCell']) (by unfold maxLen; omega) (by omega) (hB3.alloc hB3.size _).size ?_; intro v4 w4 hO4 hg4; have hB4 := (hB3.alloc hB3.size _).grown hg4 (hB3.alloc hB3.size _).size (fun j e => (hO3.lt j e).1); obtain ⟨A4, c4, hv4, _, _⟩ := own_form hO4; subst hv4))
          by_cases hf : f = 0
          · subst hf
            go_wp2_with fail
            go_roundg (n - (k + 1))
            case measure => omega
            case rel => exact ⟨k + 1, R ++ [r], N + 1, c4, A4, 0, by go_num, rfl, rfl, rfl, by omega, by omega, Lib.hid (by rw [List.length_append, HRL.out]; rfl), Lib.hid (c32_snoc HRC.out HRX.out), Lib.hid (plain_snoc HRK.out HR8.out), Lib.hid (fst_zero HF.out HX.out), hB4, by rw [cl_snoc]; exact hO4⟩
          · have hfb : (f == 0) = false := by simpa using hf
            go_wp2_with fail
            go_roundg (n - (k + 1))
            case measure => omega
            case rel => exact ⟨k + 1, R ++ [r], N + 1, c4, A4, f, by go_num, rfl, rfl, rfl, by omega, by omega, Lib.hid (by rw [List.length_append, HRL.out]; rfl), Lib.hid (c32_snoc HRC.out HRX.out), Lib.hid (plain_snoc HRK.out HR8.out), Lib.hid (fst_keep HF.out hf), hB4, by rw [cl_snoc]; exact hO4⟩
        · rw [decide_eq_true h8] at HK
          clear h8 HKK
          have HLT := Lib.hid (show k < l.length by rw [HN.out]; exact hlt)
          rcases h0 with h0 | ⟨h0, hr | hr⟩ | ⟨h0, hr1, hr2⟩
          · subst h0
            by_cases hf : f = 0
            · subst hf
              go_wp2_with (first
                | (go_at_call 8; refine (HA.out _ hB).mono ?_; rintro e w1 ⟨rfl, hB1⟩)
                | (go_at_call 9; refine (HK.out _).mono ?_; rintro e w2 ⟨rfl, hB2⟩; have hb12 := upB hB1 hB2; have hB3 := hB.trans (hb12.mono hB.size); have hO3 := own_below hO hb12)
                | fail)
              go_roundg (n - (k + 1))
              case measure => omega
              case rel => exact ⟨k + 1, R, N, c, B, 0, by go_num, rfl, rfl, rfl, by omega, by omega, HRL, HRC, HRK, Lib.hid (fst_zero HF.out HX.out), hB3, hO3⟩
            · have hfb : (f == 0) = false := by simpa using hf
              go_wp2_with (first
                | (go_at_call 8; refine (HA.out _ hB).mono ?_; rintro e w1 ⟨rfl, hB1⟩)
                | (go_at_call 9; refine (HK.out _).mono ?_; rintro e w2 ⟨rfl, hB2⟩; have hb12 := upB hB1 hB2; have hB3 := hB.trans (hb12.mono hB.size); have hO3 := own_below hO hb12)
                | fail)
              go_roundg (n - (k + 1))
              case measure => omega
              case rel => exact ⟨k + 1, R, N, c, B, f, by go_num, rfl, rfl, rfl, by omega, by omega, HRL, HRC, HRK, Lib.hid (fst_keep HF.out hf), hB3, hO3⟩
          · subst h0
            subst hr
            by_cases hf : f = 0
            · subst hf
              go_wp2_with (first
                | (go_at_call 8; refine (HA.out _ hB).mono ?_; rintro e w1 ⟨rfl, hB1⟩)
                | (go_at_call 9; refine (HK.out _).mono ?_; rintro e w2 ⟨rfl, hB2⟩; have hb12 := upB hB1 hB2; have hB3 := hB.trans (hb12.mono hB.size); have hO3 := own_below hO hb12)
                | fail)
              go_roundg (n - (k + 1))
              case measure => omega
              case rel => exact ⟨k + 1, R, N, c, B, 7, by go_num, rfl, rfl, rfl, by omega, by omega, HRL, HRC, HRK, Lib.hid (fst_now HF.out HLT.out HX.out (by decide)), hB3, hO3⟩
            · have hfb : (f == 0) = false := by simpa using hf
              go_wp2_with (first
                | (go_at_call 8; refine (HA.out _ hB).mono ?_; rintro e w1 ⟨rfl, hB1⟩)
                | (go_at_call 9; refine (HK.out _).mono ?_; rintro e w2 ⟨rfl, hB2⟩; have hb12 := upB hB1 hB2; have hB3 := hB.trans (hb12.mono hB.size); have hO3 := own_below hO hb12)
                | fail)
              go_roundg (n - (k + 1))
              case measure => omega
              case rel => exact ⟨k + 1, R, N, c, B, f, by go_num, rfl, rfl, rfl, by omega, by omega, HRL, HRC, HRK, Lib.hid (fst_keep HF.out hf), hB3, hO3⟩
          · subst h0
            subst hr
            by_cases hf : f = 0
            · subst hf
              go_wp2_with (first
                | (go_at_call 8; refine (HA.out _ hB).mono ?_; rintro e w1 ⟨rfl, hB1⟩)
                | (go_at_call 9; refine (HK.out _).mono ?_; rintro e w2 ⟨rfl, hB2⟩; have hb12 := upB hB1 hB2; have hB3 := hB.trans (hb12.mono hB.size); have hO3 := own_below hO hb12)
                | fail)
              go_roundg (n - (k + 1))
              case measure => omega
              case rel => exact ⟨k + 1, R, N, c, B, 7, by go_num, rfl, rfl, rfl, by omega, by omega, HRL, HRC, HRK, Lib.hid (fst_now HF.out HLT.out HX.out (by decide)), hB3, hO3⟩
            · have hfb : (f == 0) = false := by simpa using hf
              go_wp2_with (first
                | (go_at_call 8; refine (HA.out _ hB).mono ?_; rintro e w1 ⟨rfl, hB1⟩)
                | (go_at_call 9; refine (HK.out _).mono ?_; rintro e w2 ⟨rfl, hB2⟩; have hb12 := upB hB1 hB2; have hB3 := hB.trans (hb12.mono hB.size); have hO3 := own_below hO hb12)
                | fail)
              go_roundg (n - (k + 1))
              case measure => omega
              case rel => exact ⟨k + 1, R, N, c, B, f, by go_num, rfl, rfl, rfl, by omega, by omega, HRL, HRC, HRK, Lib.hid (fst_keep HF.out hf), hB3, hO3⟩
          · subst h0
            have hr1b : (r == 8204) = false := by simpa using hr1
            have hr2b : (r == 8205) = false := by simpa using hr2
            by_cases hf : f = 0
            · subst hf
              go_wp2_with (first
                | (go_at_call 8; refine (HA.out _ hB).mono ?_; rintro e w1 ⟨rfl, hB1⟩)
                | (go_at_call 9; refine (HK.out _).mono ?_; rintro e w2 ⟨rfl, hB2⟩; have hb12 := upB hB1 hB2; have hB3 := hB.trans (hb12.mono hB.size); have hO3 := own_below hO hb12)
                | fail)
              go_roundg (n - (k + 1))
              case measure => omega
              case rel => exact ⟨k + 1, R, N, c, B, 8, by go_num, rfl, rfl, rfl, by omega, by omega, HRL, HRC, HRK, Lib.hid (fst_now HF.out HLT.out HX.out (by decide)), hB3, hO3⟩
            · have hfb : (f == 0) = false := by simpa using hf
              go_wp2_with (first
                | (go_at_call 8; refine (HA.out _ hB).mono ?_; rintro e w1 ⟨rfl, hB1⟩)
                | (go_at_call 9; refine (HK.out _).mono ?_; rintro e w2 ⟨rfl, hB2⟩; have hb12 := upB hB1 hB2; have hB3 := hB.trans (hb12.mono hB.size); have hO3 := own_below hO hb12)
                | fail)
              go_roundg (n - (k + 1))
              case measure => omega
              case rel => exact ⟨k + 1, R, N, c, B, f, by go_num, rfl, rfl, rfl, by omega, by omega, HRL, HRC, HRK, Lib.hid (fst_keep HF.out hf), hB3, hO3⟩
      · obtain rfl : k = n := by omega
        have hltz : ¬ ((k : Nat) : Int) < (k : Int) := by omega
        have hR := own_row hO
        have HBB := Lib.hid (Check_any R B N c wr HRL.out (by omega) HRC.out hR)
        rw [chk_plain HRK.out] at HBB
        have HBL := Lib.hid (fun W (h : Below w.heap.size w W) => Check_any l A k cap W HN.out (by omega) HC.out (upR hrow h))
        rw [fst_end (by rw [HN.out]; exact HF.out)] at HBL
        have HA1 := Lib.hid (fun W (h : Below w.heap.size w W) => At_int l (-1) A k cap W HN.out (by omega) HC.out (upR hrow h))
        have HA2 := Lib.hid (fun W (h : Below w.heap.size w W) => At_int l (k : Int) A k cap W HN.out (by omega) HC.out (upR hrow h))
        rw [show atI l (-1) = 0 from if_neg (by omega)] at HA1
        rw [show atI l (k : Int) = 0 from if_neg (by have := HN.out; omega)] at HA2
        have hff : (f == f) = true := by simp
        clear hR hO HF HRK HRC HRL
        go_wp2_with (first
          | (go_at_call 10; refine (HBL.out _ hC1).mono ?_; rintro e w2 ⟨rfl, hB2⟩; have hC2 := upB hC1 hB2)
          | (go_at_call 10; refine HBB.out.mono ?_; rintro e w1 ⟨rfl, hB1⟩; have hC1 := upB hB hB1)
          | (go_at_call 8; refine (HA2.out _ hC3).mono ?_; rintro e w4 ⟨rfl, hB4⟩; have hC4 := upB hC3 hB4)
          | (go_at_call 8; refine (HA1.out _ hC2).mono ?_; rintro e w3 ⟨rfl, hB3⟩; have hC3 := upB hC2 hB3)
          | (go_at_call 7; refine (HAW.out _).mono ?_; rintro e w90 ⟨rfl, hB90⟩)
          | fail)
        go_ret
        exact ⟨rfl, upB hC4 hB90⟩

/-! From the walk to the given statement. -/
set_option linter.unusedVariables false
theorem own : ownKnob Tryd.prog.godebug = none := by kernel_rfl
theorem laidOut : laidOutB Tryd.prog = true := by kernel_rfl
set_option maxRecDepth 100000 in
theorem lifted (os : Os) (started : os.Started) (H : Type) (enc : TypeId × Value → H) :
    ReturnsInHanded {} Tryd.checked os 3 .any (fun w args => (Rows.contextPlainSpec.pre enc Tryd.prog Tryd.f3 [] false w args ∧ laidMetH Tryd.prog Rows.contextPlainRow.laid w) ∧ sizedMet enc Tryd.prog Tryd.f3 (OpenSpec.ofChange Rows.contextPlainSpec) false w args)
      (Rows.contextPlainSpec.post enc Tryd.prog Tryd.f3 false true false false) := by
  refine returnsInHanded_of_change_and (C := Tryd.checked) (X := fun w _ => laidMetH Tryd.prog Rows.contextPlainRow.laid w) (fun _ _ _ hh h => h.of_heap hh) own started (by kernel_rfl) Tryd.func3
    (ChangeSpec.witness_shaped (enc := enc) (C := Tryd.checked) (os := os) (X := fun w _ => laidMetH Tryd.prog Rows.contextPlainRow.laid w) false (World.laidAll Tryd.prog os Rows.contextPlainRow.laid) #[.slice none 0 0] 8 (World.laidAll_os _ _ _)
      (World.shaped_of_ZipB (by kernel_rfl) (by kernel_rfl)) (by kernel_rfl) (by kernel_rfl) (by kernel_rfl)
      (by rw [MakeChecks.laidMetH_plain _ _ _ (by kernel_rfl)]; exact laidMet_laidAll _ (by kernel_rfl) (by kernel_rfl))) ?_
  intro W base args ds gs before hval0 hW _ _ hL _
  have hval : ∀ (j : Nat) t v, Tryd.f3.params[j]? = some t → args[j]? = some v → Value.okWide Tryd.prog W .any base t v := hval0
  have hW' := hW
  obtain ⟨p, q, hA0, hV, rfl, _, _⟩ := hW
  have hA : DataW.TrodAll enc Tryd.prog W 0 (fun _ => true) true Tryd.f3.params.toList args.toList ds p := hA0
  rw [Tryd.params3] at hA hval
  obtain ⟨v0, vs0, d0, ds0, p0, q0, hargs, rfl, rfl, h0, r0⟩ := trodAll_cons hA
  obtain ⟨rfl, rfl, rfl⟩ := trodAll_nil r0
  obtain rfl : args = #[v0] := by cases args; simp_all
  obtain ⟨rfl, rfl⟩ := trodVars_none hV
  obtain ⟨a0, len0, cap0, rfl⟩ := okWide_slice Tryd.underlying22 (hval 0 22 v0 rfl rfl)
  have k0 := h0
  have lt0 : ∀ x ∈ p0, x.block < W.heap.size := by obtain ⟨m, hm⟩ := k0; exact DataW.trod_lt m _ _ _ hm
  obtain ⟨z0, w0⟩ := in_row Tryd.underlying22 Tryd.underlying21 (by kernel_rfl) h0
  clear hA0 hval0
  refine (walk a0 len0 cap0 z0 W w0).mono fun e W' ⟨he, bel⟩ => ?_
  subst he
  exact ⟨_, rfl, _, _, _, [], _, [], hW', trodAll_mk1 (shut_bool Tryd.underlying4 _), (trodAll_cons_mk (Below.trod laidOut (by kernel_rfl) (of_decide_eq_true (by kernel_rfl)) k0 bel lt0) trodAll_mk0), rfl, bel.frame _, fun h => by cases h⟩

theorem row_holds : Rows.ContextPlainSaid :=
  OpenClaim.holds_of_wide 3 Tryd.f3 rfl rfl rfl rfl rfl rfl rfl ⟨rfl, rfl, rfl, rfl, rfl⟩ rfl rfl rfl rfl rfl (by kernel_rfl) Tryd.func3 (by kernel_rfl)
    (of_decide_eq_true (by kernel_rfl)) (by unfold Func.isWrapper; first | (rw [if_pos (by decide +kernel)]; kernel_rfl) | (rw [if_neg (by decide +kernel)]; exact ⟨rfl, rfl⟩))
    (fun os started H enc _ => lifted os started H enc)

theorem proved : Rows.ContextPlainCardSaid :=
  Claim7.holds_tied_plain_at .later [] [.data, .data, .data, .data, .sentinel, .sentinel, .pinned] true (true, "557149538dbcd7314170ba4795fc53a2613e285518a0dbac65e85b853dd9bb05") true
    row_holds (fun _ h => by cases h) (by kernel_rfl) (fun _ h => by cases h) contextPlain_row_tie rfl ⟨rfl, rfl⟩ (by kernel_rfl) rfl
    (fun f fn hf hfn => by
      obtain rfl : f = 3 := Option.some.inj ((show Tryd.prog.funcNamed "fascia/fascialaw08.ContextPlain" = some 3 by kernel_rfl).symm.trans hf) |>.symm
      obtain rfl : fn = Tryd.f3 := (Option.some.inj (Tryd.func3.symm.trans hfn)).symm
      exact ⟨by kernel_rfl, fun j t ht => by
        rw [Tryd.params3] at ht
        have hm : t ∈ [22] := by simpa using Array.mem_of_getElem? ht
        have hall : ([22].all fun u => !Tryd.prog.wantsStandIn u) = true := by kernel_rfl
        exact (show Tryd.prog.wantsStandIn t = false by simpa using List.all_eq_true.1 hall t hm)⟩)
    (by kernel_rfl)
end Go.Proofs.YtmeihnhghdmjiaaDoor.contextPlain
