/-
  For any label (up to 100) between two letters a, any others (up to 100) ahead and behind: whether one that is no digit, and no dot of Katakana, may stand at its place hangs on those beside it alone (fascialaw08.ContextBeside answers true). No condition.
-/
import Derived.Test.YtmeihnhghdmjiaaDoorCtxK
import Derived.Test.YtmeihnhghdmjiaaDoorFrame
import Derived.Maps.AppendAt
import Derived.Test.YtmeihnhghdmjiaaDoorTie
import Derived.Test.YtmeihnhghdmjiaaDoorCards
import Derived.ProofKit
import Derived.Lay
import Derived.Stop.Joined
import Derived.SevenTiedAt
namespace Go.Proofs.YtmeihnhghdmjiaaDoor.contextBeside
open Go.ChangeShapes Go.WideShapes Go.ChangeAt Go.RowKit Ctx Ucd

theorem in_c32 {zs : List Int} (h : ∀ n ∈ zs, (Lit.int .i32 n).wf = true) : C32 zs := fun x hx => by
  have := h x hx
  simp [Lit.wf, IntKind.min, IntKind.max, IntKind.bits, IntKind.signed] at this
  omega
theorem fld0 (p : List Int) (w : World) : (Instr.field 29 (pv p) 0).run Tryd.prog w = .ok (.int .u8 (g p 0)) w := by kernel_rfl
set_option maxRecDepth 100000 in
set_option maxHeartbeats 4000000 in
theorem walk (A : Option Addr) (n cap : Nat) (l : List Int) (A1 : Option Addr) (n1 cap1 : Nat) (P : List Int) (A2 : Option Addr) (n2 cap2 : Nat) (S : List Int) (w : World) (hin : InRow .i32 w A n cap l) (hin1 : InRow .i32 w A1 n1 cap1 P) (hin2 : InRow .i32 w A2 n2 cap2 S) :
    Calls Tryd.prog 4 #[.slice A n cap, .slice A1 n1 cap1, .slice A2 n2 cap2] w fun e w' => e = .returned (.bool true) ∧ Below w.heap.size w w' := by
  obtain ⟨hlen, _, _, hrow, hwf⟩ := hin
  obtain ⟨hlen1, _, _, hrow1, hwf1⟩ := hin1
  obtain ⟨hlen2, _, _, hrow2, hwf2⟩ := hin2
  obtain ⟨i0, hi, hzz0, hzz1, hzz2⟩ := info_split info_int32
  have HAW := Lib.hid awake8_any
  by_cases h100 : 100 < n ∨ 100 < n1 ∨ 100 < n2
  · clear hrow hrow1 hrow2 hlen hlen1 hlen2 hwf hwf1 hwf2
    by_cases ha : 100 < n
    · have haz : (100 : Int) < (n : Int) := by omega
      go_enter Tryd.func4, Tryd.ntmps4
      go_wp2_with (first | (go_at_call 7; refine (HAW.out _).mono ?_; rintro e w90 ⟨rfl, hB90⟩) | fail)
      go_ret
      exact ⟨rfl, hB90⟩
    · have haz : ¬ (100 : Int) < (n : Int) := by omega
      by_cases hb : 100 < n1
      · have hbz : (100 : Int) < (n1 : Int) := by omega
        go_enter Tryd.func4, Tryd.ntmps4
        go_wp2_with (first | (go_at_call 7; refine (HAW.out _).mono ?_; rintro e w90 ⟨rfl, hB90⟩) | fail)
        go_ret
        exact ⟨rfl, hB90⟩
      · have hbz : ¬ (100 : Int) < (n1 : Int) := by omega
        have hcz : (100 : Int) < (n2 : Int) := by omega
        go_enter Tryd.func4, Tryd.ntmps4
        go_wp2_with (first | (go_at_call 7; refine (HAW.out _).mono ?_; rintro e w90 ⟨rfl, hB90⟩) | fail)
        go_ret
        exact ⟨rfl, hB90⟩
  · have haz : ¬ (100 : Int) < (n : Int) := by omega
    have hbz : ¬ (100 : Int) < (n1 : Int) := by omega
    have hcz : ¬ (100 : Int) < (n2 : Int) := by omega
    have ka : n ≤ 100 := by omega
    have kb : n1 ≤ 100 := by omega
    have kc : n2 ≤ 100 := by omega
    have HN := Lib.hid hlen
    have HN1 := Lib.hid hlen1
    have HN2 := Lib.hid hlen2
    have HC := Lib.hid (in_c32 hwf)
    have HC1 := Lib.hid (in_c32 hwf1)
    have HC2 := Lib.hid (in_c32 hwf2)
    have HR1 := Lib.hid hrow1
    have HR2 := Lib.hid hrow2
    have hrow' := hrow.alloc (Nat.le_refl _) (.cells #[.int .i32 97] 21)
    have ho1 := own_one w w.heap.size 21 (.int .i32 97) (Nat.le_refl _)
    have HLc : Hid ((cl .i32 l).length = n * 1) := Lib.hid (by simp [cl]; exact hlen)
    clear hlen hlen1 hlen2 hwf hwf1 hwf2 hrow1 hrow2 h100
    go_enter Tryd.func4, Tryd.ntmps4
    go_upto_region 4 with (first
      | (at_builtin; refine wpList_append_row _ rfl _ _ 22 rfl w.heap.size 21 i0 (.int .i32 0) 1 4 Tryd.underlying22 hi hzz0 hzz1 hzz2 rfl (by decide) _ (1 + n) ([.int .i32 97] ++ cl .i32 l) rfl (hO2.alloc _) _ _ 1 1 [.int .i32 97] rfl rfl (row_new _ _ _ _ rfl) (by simp [Value.oneCell']) (by unfold maxLen; omega) (by omega) (hB2.alloc hB2.size _).size ?_; intro v3 w3 hO3 hg3; have hB3 := (hB2.alloc hB2.size _).grown hg3 (hB2.alloc hB2.size _).size (fun j e => (hO2.lt j e).1); obtain ⟨A3, c3, hv3, _, hR3⟩ := own_form hO3; subst hv3)
      | (at_builtin; refine wpList_append_row _ rfl _ _ 22 rfl w.heap.size 21 i0 (.int .i32 0) 1 4 Tryd.underlying22 hi hzz0 hzz1 hzz2 rfl (by decide) _ 1 [.int .i32 97] rfl ho1 w.heap.size _ n cap (cl .i32 l) rfl HLc.out hrow' (one_cl _ _) (by unfold maxLen; omega) (by omega) (upA w _).size ?_; intro v2 w2 hO2 hg2; have hB2 := (upA w (.cells #[.int .i32 97] 21)).grown hg2 (upA w _).size (fun j e => (ho1.lt j e).1); obtain ⟨A2', c2, hv2, _, _⟩ := own_form hO2; subst hv2)
      | fail)
    have HI : Row w3 w3.heap.size A3 (cl .i32 (97 :: l ++ [97])) := by
      have e : cl .i32 (97 :: l ++ [97]) = [Value.int .i32 97] ++ cl .i32 l ++ [Value.int .i32 97] := by simp [cl]
      rw [e]
      exact hR3
    have HIL : Hid ((97 :: l ++ [97]).length = 1 + n + 1) := Lib.hid (by have := HN.out; simp; omega)
    have HIC : Hid (C32 (97 :: l ++ [97])) := Lib.hid (fun x hx => by
      rcases List.mem_append.1 hx with h | h
      · rcases List.mem_cons.1 h with h | h
        · rw [h]; decide
        · exact HC.out x h
      · rw [List.mem_singleton] at h; rw [h]; decide)
    have HBS : Hid (∀ k, 0 < k → k + 1 < 1 + n + 1 → ct (97 :: l ++ [97])[k]! ≠ 5 → (97 :: l ++ [97])[k]! ≠ 12539 → atC (P ++ (97 :: l ++ [97]) ++ S) (n1 + k) = atC (97 :: l ++ [97]) k) := Lib.hid (fun k h0 h1 h2 h3 => by
      have := beside_a (P := P) (l := l) (S := S) h0 (by have := HN.out; omega) h2 h3
      rwa [HN1.out] at this)
    have HR1' := (upR HR1.out hB3)
    have HR2' := (upR HR2.out hB3)
    have HCA : Hid (C32 (P ++ (97 :: l ++ [97]) ++ S)) := Lib.hid (fun x hx => by
      rcases List.mem_append.1 hx with h | h
      · rcases List.mem_append.1 h with h | h
        · exact HC1.out x h
        · exact HIC.out x h
      · exact HC2.out x h)
    have HAL : Hid ((P ++ (97 :: l ++ [97]) ++ S).length = n1 + (1 + n + 1) + n2) := Lib.hid (by
      have := HIL.out
      have := HN1.out
      have := HN2.out
      rw [List.length_append, List.length_append]
      omega)
    clear hO3 hR3 hB2 hO2 hg2 hg3 hrow hrow' ho1 HC HC1 HC2 HR1 HR2 HLc HN
    generalize (97 :: l ++ [97]) = I at HI HIL HIC HBS HCA HAL
    obtain ⟨N, hN⟩ : ∃ N, 1 + n + 1 = N := ⟨_, rfl⟩
    have hN2 : N ≤ 102 := by omega
    rw [hN] at HIL HAL HBS ⊢
    clear hN
    have HLI : Hid ((cl .i32 I).length = N * 1) := Lib.hid (by simp [cl]; exact HIL.out)
    have HLP : Hid ((cl .i32 P).length = n1 * 1) := Lib.hid (by simp [cl]; exact HN1.out)
    have HLS : Hid ((cl .i32 S).length = n2 * 1) := Lib.hid (by simp [cl]; exact HN2.out)
    have ho4 := own_none w3 w3.heap.size 21 (Nat.le_refl _)
    go_upto_region 5 with (first
      | (at_builtin; refine wpList_append_row _ rfl _ _ 22 rfl w3.heap.size 21 i0 (.int .i32 0) 1 4 Tryd.underlying22 hi hzz0 hzz1 hzz2 rfl (by decide) _ (n1 + N) (cl .i32 P ++ cl .i32 I) rfl hO6 w3.heap.size _ n2 cap2 (cl .i32 S) rfl HLS.out (HR2'.below hB6) (one_cl _ _) (by unfold maxLen; omega) (by omega) hB6.size ?_; intro v7 w7 hO7 hg7; have hB7 := hB6.grown hg7 hB6.size (fun j e => (hO6.lt j e).1); obtain ⟨A7, c7, hv7, _, hR7⟩ := own_form hO7; subst hv7)
      | (at_builtin; refine wpList_append_row _ rfl _ _ 22 rfl w3.heap.size 21 i0 (.int .i32 0) 1 4 Tryd.underlying22 hi hzz0 hzz1 hzz2 rfl (by decide) _ n1 (cl .i32 P) rfl hO5 w3.heap.size _ N c3 (cl .i32 I) rfl HLI.out (HI.below hB5) (one_cl _ _) (by unfold maxLen; omega) (by omega) hB5.size ?_; intro v6 w6 hO6 hg6; have hB6 := hB5.grown hg6 hB5.size (fun j e => (hO5.lt j e).1); obtain ⟨A6, c6, hv6, _, _⟩ := own_form hO6; subst hv6)
      | (at_builtin; refine wpList_append_row _ rfl _ _ 22 rfl w3.heap.size 21 i0 (.int .i32 0) 1 4 Tryd.underlying22 hi hzz0 hzz1 hzz2 rfl (by decide) _ 0 [] rfl ho4 w3.heap.size _ n1 cap1 (cl .i32 P) rfl HLP.out (HR1'.alloc (Nat.le_refl _) _) (one_cl _ _) (by unfold maxLen; omega) (by omega) (upA w3 _).size ?_; intro v5 w5 hO5 hg5; rw [Nat.zero_add, List.nil_append] at hO5; have hB5 := (upA w3 (.cells #[] 21)).grown hg5 (upA w3 _).size (fun j e => (ho4.lt j e).1); obtain ⟨A5, c5, hv5, _, _⟩ := own_form hO5; subst hv5)
      | fail)
    have HRA : Row w7 w7.heap.size A7 (cl .i32 (P ++ I ++ S)) := by
      have e : cl .i32 (P ++ I ++ S) = cl .i32 P ++ cl .i32 I ++ cl .i32 S := by simp [cl]
      rw [e]
      exact hR7
    have HRI := upR HI hB7
    have hBW := upB hB3 hB7
    clear hO5 hO6 hO7 hg5 hg6 hg7 hB5 hB6 hB7 hB3 HI HR1' HR2' ho4 hR7 HLI HLP HLS
    obtain ⟨M, hM⟩ : ∃ M, n1 + N + n2 = M := ⟨_, rfl⟩
    have hM2 : M ≤ 1000 := by omega
    have hM3 : n1 + N ≤ M := by omega
    rw [hM] at HAL ⊢
    clear hM
    go_wp2_with fail
    go_loopg [39] N (fun m s39 wr => ∃ k : Nat, s39 = .int .i64 (k : Int) ∧ m = N - k ∧ k ≤ N ∧ Below w7.heap.size w7 wr)
    case atStart => exact ⟨0, rfl, rfl, Nat.zero_le _, Below.refl _ _⟩
    case round =>
      obtain ⟨k, rfl, rfl, hk, hB⟩ := hrel
      by_cases hlt : k < N
      · have hltz : (k : Int) < (N : Int) := by omega
        obtain ⟨b, o, rfl, hb, hcc⟩ := (HRI.below hB).at_ (by have := HIL.out; simp; omega)
        have c0 := row_cell hcc k (by rw [HIL.out]; exact hlt)
        have HX1 := Lib.hid (fun W (h : Below w7.heap.size w7 W) => At_any I k _ _ c3 W HIL.out hlt (by omega) HIC.out (upR HRI h))
        have HX2 := Lib.hid (fun W (h : Below w7.heap.size w7 W) => At_any (P ++ I ++ S) (n1 + k) A7 _ c7 W HAL.out (by omega) (by omega) HCA.out (upR HRA h))
        have HBK := Lib.hid (HBS.out k)
        obtain ⟨r, hr0⟩ : ∃ r, I[k]! = r := ⟨_, rfl⟩
        rw [hr0] at c0 HBK
        have HO := Lib.hid (fun w => Of_any r w)
        unfold ct at HBK
        have HFL := fld0 (of r)
        generalize of r = p at HO HBK HFL
        obtain ⟨y, hy⟩ : ∃ y, g p 0 = y := ⟨_, rfl⟩
        rw [hy] at HBK HFL
        clear hcc hr0 hy
        obtain ⟨q, hq⟩ : ∃ q, n1 + k = q := ⟨_, rfl⟩
        have hadd : (n1 : Int) + (k : Int) = (q : Int) := by omega
        have hwq : IntKind.i64.wrap (q : Int) = (q : Int) := IntWalk.i64_in _ (by omega)
        rw [hq] at HX2 HBK
        obtain ⟨N1, hN1⟩ : ∃ N1, N = N1 + 1 := ⟨N - 1, by omega⟩
        have hsub : (N : Int) - 1 = (N1 : Int) := by omega
        have hws : IntKind.i64.wrap (N1 : Int) = (N1 : Int) := IntWalk.i64_in _ (by omega)
        have HNE := Lib.hid hN1
        have HBQ := Lib.hid hq
        clear hN1 hq
        by_cases h5 : y = 5
        · subst h5
          go_wp2_with (first | (go_at_call 11; refine (HO.out _).mono ?_; rintro e w8 ⟨rfl, hB8⟩) | fail)
          go_roundg (N - (k + 1))
          case measure => omega
          case rel => exact ⟨k + 1, by go_num, rfl, by omega, hB.trans (hB8.mono hB.size)⟩
        · have h5b : (y == 5) = false := by simpa using h5
          by_cases h12 : r = 12539
          · subst h12
            go_wp2_with (first | (go_at_call 11; refine (HO.out _).mono ?_; rintro e w8 ⟨rfl, hB8⟩) | fail)
            go_roundg (N - (k + 1))
            case measure => omega
            case rel => exact ⟨k + 1, by go_num, rfl, by omega, hB.trans (hB8.mono hB.size)⟩
          · have h12b : (r == 12539) = false := by simpa using h12
            by_cases hk0 : 0 < k
            · have hk0z : (0 : Int) < (k : Int) := by omega
              by_cases hk1 : k < N1
              · have hk1z : (k : Int) < (N1 : Int) := by omega
                rw [HBK.out hk0 (by have := HNE.out; omega) h5 h12] at HX2
                clear HBK
                generalize atC I k = x at HX1 HX2
                have hxx : (x != x) = false := by simp
                go_wp2_with (first
                  | (go_at_call 8; refine (HX2.out _ hB9).mono ?_; rintro e w10 ⟨rfl, hB10⟩)
                  | (go_at_call 8; refine (HX1.out _ hB8').mono ?_; rintro e w9 ⟨rfl, hB9'⟩; have hB9 := hB8'.trans (hB9'.mono hB8'.size))
                  | (go_at_call 11; refine (HO.out _).mono ?_; rintro e w8 ⟨rfl, hB8⟩; have hB8' := hB.trans (hB8.mono hB.size))
                  | fail)
                go_roundg (N - (k + 1))
                case measure => omega
                case rel => exact ⟨k + 1, by go_num, rfl, by omega, hB9.trans (hB10.mono hB9.size)⟩
              · have hk1z : ¬ (k : Int) < (N1 : Int) := by omega
                clear HBK
                go_wp2_with (first | (go_at_call 11; refine (HO.out _).mono ?_; rintro e w8 ⟨rfl, hB8⟩) | fail)
                go_roundg (N - (k + 1))
                case measure => omega
                case rel => exact ⟨k + 1, by go_num, rfl, by omega, hB.trans (hB8.mono hB.size)⟩
            · have hk0z : ¬ (0 : Int) < (k : Int) := by omega
              clear HBK
              go_wp2_with (first | (go_at_call 11; refine (HO.out _).mono ?_; rintro e w8 ⟨rfl, hB8⟩) | fail)
              go_roundg (N - (k + 1))
              case measure => omega
              case rel => exact ⟨k + 1, by go_num, rfl, by omega, hB.trans (hB8.mono hB.size)⟩
      · obtain rfl : k = N := by omega
        have hltz : ¬ ((k : Nat) : Int) < (k : Int) := by omega
        go_wp2_with (first | (go_at_call 7; refine (HAW.out _).mono ?_; rintro e w90 ⟨rfl, hB90⟩) | fail)
        go_ret
        exact ⟨rfl, upB (upB hBW hB) hB90⟩

/-! From the walk to the given statement. -/
set_option linter.unusedVariables false
theorem own : ownKnob Tryd.prog.godebug = none := by kernel_rfl
theorem laidOut : laidOutB Tryd.prog = true := by kernel_rfl
set_option maxRecDepth 100000 in
theorem lifted (os : Os) (started : os.Started) (H : Type) (enc : TypeId × Value → H) :
    ReturnsInHanded {} Tryd.checked os 4 .any (fun w args => (Rows.contextBesideSpec.pre enc Tryd.prog Tryd.f4 [] false w args ∧ laidMetH Tryd.prog Rows.contextBesideRow.laid w) ∧ sizedMet enc Tryd.prog Tryd.f4 (OpenSpec.ofChange Rows.contextBesideSpec) false w args)
      (Rows.contextBesideSpec.post enc Tryd.prog Tryd.f4 false true false false) := by
  refine returnsInHanded_of_change_and (C := Tryd.checked) (X := fun w _ => laidMetH Tryd.prog Rows.contextBesideRow.laid w) (fun _ _ _ hh h => h.of_heap hh) own started (by kernel_rfl) Tryd.func4
    (ChangeSpec.witness_shaped (enc := enc) (C := Tryd.checked) (os := os) (X := fun w _ => laidMetH Tryd.prog Rows.contextBesideRow.laid w) false (World.laidAll Tryd.prog os Rows.contextBesideRow.laid) #[.slice none 0 0, .slice none 0 0, .slice none 0 0] 8 (World.laidAll_os _ _ _)
      (World.shaped_of_ZipB (by kernel_rfl) (by kernel_rfl)) (by kernel_rfl) (by kernel_rfl) (by kernel_rfl)
      (by rw [MakeChecks.laidMetH_plain _ _ _ (by kernel_rfl)]; exact laidMet_laidAll _ (by kernel_rfl) (by kernel_rfl))) ?_
  intro W base args ds gs before hval0 hW _ _ hL _
  have hval : ∀ (j : Nat) t v, Tryd.f4.params[j]? = some t → args[j]? = some v → Value.okWide Tryd.prog W .any base t v := hval0
  have hW' := hW
  obtain ⟨p, q, hA0, hV, rfl, _, _⟩ := hW
  have hA : DataW.TrodAll enc Tryd.prog W 0 (fun _ => true) true Tryd.f4.params.toList args.toList ds p := hA0
  rw [Tryd.params4] at hA hval
  obtain ⟨v0, vs0, d0, ds0, p0, q0, hargs, rfl, rfl, h0, r0⟩ := trodAll_cons hA
  obtain ⟨v1, vs1, d1, ds1, p1, q1, rfl, rfl, rfl, h1, r1⟩ := trodAll_cons r0
  obtain ⟨v2, vs2, d2, ds2, p2, q2, rfl, rfl, rfl, h2, r2⟩ := trodAll_cons r1
  obtain ⟨rfl, rfl, rfl⟩ := trodAll_nil r2
  obtain rfl : args = #[v0, v1, v2] := by cases args; simp_all
  obtain ⟨rfl, rfl⟩ := trodVars_none hV
  obtain ⟨a0, len0, cap0, rfl⟩ := okWide_slice Tryd.underlying22 (hval 0 22 v0 rfl rfl)
  have k0 := h0
  have lt0 : ∀ x ∈ p0, x.block < W.heap.size := by obtain ⟨m, hm⟩ := k0; exact DataW.trod_lt m _ _ _ hm
  obtain ⟨z0, w0⟩ := in_row Tryd.underlying22 Tryd.underlying21 (by kernel_rfl) h0
  obtain ⟨a1, len1, cap1, rfl⟩ := okWide_slice Tryd.underlying22 (hval 1 22 v1 rfl rfl)
  have k1 := h1
  have lt1 : ∀ x ∈ p1, x.block < W.heap.size := by obtain ⟨m, hm⟩ := k1; exact DataW.trod_lt m _ _ _ hm
  obtain ⟨z1, w1⟩ := in_row Tryd.underlying22 Tryd.underlying21 (by kernel_rfl) h1
  obtain ⟨a2, len2, cap2, rfl⟩ := okWide_slice Tryd.underlying22 (hval 2 22 v2 rfl rfl)
  have k2 := h2
  have lt2 : ∀ x ∈ p2, x.block < W.heap.size := by obtain ⟨m, hm⟩ := k2; exact DataW.trod_lt m _ _ _ hm
  obtain ⟨z2, w2⟩ := in_row Tryd.underlying22 Tryd.underlying21 (by kernel_rfl) h2
  clear hA0 hval0
  refine (walk a0 len0 cap0 z0 a1 len1 cap1 z1 a2 len2 cap2 z2 W w0 w1 w2).mono fun e W' ⟨he, bel⟩ => ?_
  subst he
  exact ⟨_, rfl, _, _, _, [], _, [], hW', trodAll_mk1 (shut_bool Tryd.underlying4 _), (trodAll_cons_mk (Below.trod laidOut (by kernel_rfl) (of_decide_eq_true (by kernel_rfl)) k0 bel lt0) (trodAll_cons_mk (Below.trod laidOut (by kernel_rfl) (of_decide_eq_true (by kernel_rfl)) k1 bel lt1) (trodAll_cons_mk (Below.trod laidOut (by kernel_rfl) (of_decide_eq_true (by kernel_rfl)) k2 bel lt2) trodAll_mk0))), rfl, bel.frame _, fun h => by cases h⟩

theorem row_holds : Rows.ContextBesideSaid :=
  OpenClaim.holds_of_wide 4 Tryd.f4 rfl rfl rfl rfl rfl rfl rfl ⟨rfl, rfl, rfl, rfl, rfl⟩ rfl rfl rfl rfl rfl (by kernel_rfl) Tryd.func4 (by kernel_rfl)
    (of_decide_eq_true (by kernel_rfl)) (by unfold Func.isWrapper; first | (rw [if_pos (by decide +kernel)]; kernel_rfl) | (rw [if_neg (by decide +kernel)]; exact ⟨rfl, rfl⟩))
    (fun os started H enc _ => lifted os started H enc)

theorem proved : Rows.ContextBesideCardSaid :=
  Claim7.holds_tied_plain_at .later [] [.data, .data, .data, .data, .sentinel, .sentinel, .pinned] true (true, "557149538dbcd7314170ba4795fc53a2613e285518a0dbac65e85b853dd9bb05") true
    row_holds (fun _ h => by cases h) (by kernel_rfl) (fun _ h => by cases h) contextBeside_row_tie rfl ⟨rfl, rfl⟩ (by kernel_rfl) rfl
    (fun f fn hf hfn => by
      obtain rfl : f = 4 := Option.some.inj ((show Tryd.prog.funcNamed "fascia/fascialaw08.ContextBeside" = some 4 by kernel_rfl).symm.trans hf) |>.symm
      obtain rfl : fn = Tryd.f4 := (Option.some.inj (Tryd.func4.symm.trans hfn)).symm
      exact ⟨by kernel_rfl, fun j t ht => by
        rw [Tryd.params4] at ht
        have hm : t ∈ [22, 22, 22] := by simpa using Array.mem_of_getElem? ht
        have hall : ([22, 22, 22].all fun u => !Tryd.prog.wantsStandIn u) = true := by kernel_rfl
        exact (show Tryd.prog.wantsStandIn t = false by simpa using List.all_eq_true.1 hall t hm)⟩)
    (by kernel_rfl)
end Go.Proofs.YtmeihnhghdmjiaaDoor.contextBeside
