/-
  For any two code points and any ASCII (up to 100): what the two make is taken apart as the first one taken apart, and the second one, and put together just so again; plain ASCII stays as it is (fascialaw05.NormPairs answers true). No condition.
-/
import Derived.Test.YtncnagagigalhaaGreatDoorNormW
import Derived.Test.YtncnagagigalhaaGreatDoorFrame
import Derived.Test.YtncnagagigalhaaGreatDoorFrame
import Derived.Test.YtncnagagigalhaaGreatDoorTie
import Derived.Test.YtncnagagigalhaaGreatDoorCards
import Derived.ProofKit
import Derived.Lay
import Derived.Stop.Joined
import Derived.SevenTiedAt
namespace Go.Proofs.YtncnagagigalhaaGreatDoor.normPairs
open Go.ChangeShapes Go.WideShapes Go.ChangeAt Go.RowKit Norm

theorem wf8 {n : Int} (h : (Lit.int .u8 n).wf = true) : 0 ≤ n ∧ n ≤ 255 := by
  simp [Lit.wf, IntKind.min, IntKind.max, IntKind.bits, IntKind.signed] at h
  omega
def a7 (l : List Int) : List Int := l.map (fun c => c % 128)
theorem asc_a7 (l : List Int) : Asc (a7 l) := by
  intro x hx
  obtain ⟨y, _, rfl⟩ := List.mem_map.1 hx
  omega
theorem a7_take {l : List Int} {k : Nat} (hk : k < l.length) : cl .i32 (a7 (l.take (k + 1))) = cl .i32 (a7 (l.take k)) ++ [.int .i32 (l[k] % 128)] := by
  rw [List.take_add_one, List.getElem?_eq_getElem hk]
  unfold a7 cl
  rw [List.map_append, List.map_append]
  rfl
theorem own_glue {w : World} {base n : Nat} {v : Value} {F R : List Int} {b : Int} (h : R = F ++ [b]) (ho : w.ownsRow base 21 1 v (0 + n + 1) (([] ++ cl .i32 F) ++ [.int .i32 b])) : w.ownsRow base 21 1 v (n + 1) (cl .i32 R) := by
  subst h
  rw [Nat.zero_add, List.nil_append] at ho
  rw [show cl .i32 (F ++ [b]) = cl .i32 F ++ [.int .i32 b] from by simp [cl]]
  exact ho
theorem Is_row (N : Nat) (hN : StableOk N) (l : List Int) (A : Option Addr) (k cap : Nat) (w : World) (hk : l.length = k) (hl : k ≤ 1000) (hC : C32 l) (hr : Row w w.heap.size A (cl .i32 l)) (hR : Runs N (dec l)) (h : nfc l = l) :
    Calls Tryz.prog 19 #[.slice A k cap] w (IsB true w) := by
  subst hk
  have := Is_any N hN l A cap w hl hC hr hR
  rw [decide_eq_true h] at this
  exact this
theorem Same_self (l : List Int) (A B : Option Addr) (n c d : Nat) (w : World) (hn : l.length = n) (hn1 : n ≤ 1000000) (hra : Row w w.heap.size A (cl .i32 l)) (hrb : Row w w.heap.size B (cl .i32 l)) :
    Calls Tryz.prog 12 #[.slice A n c, .slice B n d] w (IsB true w) := by
  have := Same_any l l A B n n c d w hn hn hn1 hn1 hra hrb
  rw [decide_eq_true rfl] at this
  exact this
set_option maxRecDepth 100000 in
set_option maxHeartbeats 4000000 in
theorem walk (a b : Int) (A : Option Addr) (len cap : Nat) (zs : List Int) (w : World) (ha : -2147483648 ≤ a) (ha2 : a ≤ 2147483647) (hb : -2147483648 ≤ b) (hb2 : b ≤ 2147483647) (hin : InRow .u8 w A len cap zs) : Calls Tryz.prog 7 #[.int .i32 a, .int .i32 b, .slice A len cap] w fun e w' => e = .returned (.bool true) ∧ Below w.heap.size w w' := by
  obtain ⟨hlen, hlc, hcm, hrow, hwf⟩ := hin
  obtain ⟨i0, hi, hz0, hz1, hz2⟩ := info_split info_int32
  by_cases h100 : 100 < len
  · have h100z : (100 : Int) < (len : Int) := by omega
    go_enter Tryz.func7, Tryz.ntmps7
    go_wp2_with fail
    refine (awake_any _).mono ?_
    rintro e w1 ⟨rfl, hB1⟩
    go_wp2_with fail
    go_ret
    exact ⟨rfl, hB1⟩
  · have h100z : ¬ (100 : Int) < (len : Int) := by omega
    subst hlen
    have HAS := Lib.hid (asc_same (asc_a7 zs))
    have HAR := Lib.hid (asc_runs (asc_a7 zs))
    have HAC := Lib.hid (asc_c32 (asc_a7 zs))
    have HAL : Hid ((a7 zs).length = zs.length) := Lib.hid (by simp [a7])
    cases hj : jn a b with
    | none =>
      go_enter Tryz.func7, Tryz.ntmps7
      go_wp2_with fail
      refine (Join_is a b _ _ ⟨ha, ha2⟩ ⟨hb, hb2⟩ hj).mono ?_
      rintro e w1 ⟨rfl, hW1⟩
      clear hj
      go_wp2_with fail
      go_loopg [10, 50] zs.length (fun m s10 s50 wr => ∃ k : Nat, s50 = .int .i64 (k : Int) ∧ m = zs.length - k ∧ k ≤ zs.length ∧ wr.ownsRow w.heap.size 21 1 s10 k (cl .i32 (a7 (zs.take k))) ∧ Below w.heap.size w wr)
      case atStart => exact ⟨0, rfl, rfl, Nat.zero_le _, World.ownsRow_nil _ _ _ _, hW1⟩
      case round =>
        obtain ⟨k, rfl, rfl, hk, hO, hBr⟩ := hrel
        by_cases hlt : k < zs.length
        · have hltz : (k : Int) < (zs.length : Int) := by omega
          have HTK := Lib.hid (a7_take hlt)
          have hx8 := wf8 (hwf _ (List.getElem_mem hlt))
          obtain ⟨g0, o0, rfl, hg0, hcc⟩ := (hrow.below hBr).at_ (by simp; omega)
          have c0 := hcc k (by simpa using hlt)
          rw [cl_get _ _ _ hlt] at c0
          obtain ⟨x, hx⟩ : ∃ x, zs[k] = x := ⟨_, rfl⟩
          rw [hx] at c0 HTK hx8
          clear hx hcc
          have htm : x.tmod 128 = x % 128 := Int.tmod_eq_emod_of_nonneg hx8.1
          go_wp2_with (first | (at_builtin; refine wpList_append_row _ rfl _ _ 22 rfl w.heap.size 21 i0 (.int .i32 0) 1 4 Tryz.underlying22 hi hz0 hz1 hz2 rfl (by decide) _ k _ rfl (hO.alloc _) _ _ 1 1 [.int .i32 (x % 128)] rfl rfl (row_new' _ _ _ _ rfl) (by simp [Value.oneCell']) (by unfold maxLen; omega) (by omega) (hBr.alloc hBr.size _).size ?_; intro v5 w5 hO5 hg5) | fail)
          go_roundg (zs.length - (k + 1))
          case measure => omega
          case rel =>
            refine ⟨k + 1, by go_num, rfl, by omega, ?_, (hBr.alloc hBr.size (.cells #[.int .i32 (x % 128)] 21)).grown hg5 (hBr.alloc hBr.size _).size (fun j e => (hO.lt j e).1)⟩
            rw [HTK.out]
            exact hO5
        · obtain rfl : k = zs.length := by omega
          have hltz : ¬ ((zs.length : Nat) : Int) < (zs.length : Int) := by omega
          rw [List.take_length] at hO
          obtain ⟨AL, cL, rfl⟩ := own_shape hO
          have hrl := Row.of_own hO
          generalize a7 zs = M at HAS HAR HAC HAL hrl
          clear hO hwf hrow
          go_wp2_with fail
          refine (Is_row 19 stable19 M _ zs.length _ _ HAL.out (by omega) HAC.out hrl HAR.out HAS.out.2).mono ?_
          rintro e w6 ⟨rfl, hB6⟩
          have hr6 := hrl.up hB6
          have hW6 := upB hBr hB6
          clear hB6 hBr hrl
          go_wp2_with fail
          refine (NFD_row 19 stable19 M M _ zs.length _ zs.length _ HAL.out (by omega) HAC.out hr6 HAR.out HAS.out.1 HAL.out).mono ?_
          rintro e w7 ⟨A7, c7, rfl, hr7, hB7⟩
          have hr8 := hr6.up hB7
          have hW7 := upB hW6 hB7
          clear hB7 hr6 hW6
          go_wp2_with fail
          refine (Same_self M _ _ zs.length _ _ _ HAL.out (by omega) hr7 hr8).mono ?_
          rintro e w8 ⟨rfl, hB8⟩
          have hW8 := upB hW7 hB8
          clear hB8 hW7 hr7 hr8
          go_wp2_with fail
          refine (awake_any _).mono ?_
          rintro e w9 ⟨rfl, hB9⟩
          go_wp2_with fail
          go_ret
          exact ⟨rfl, upB hW8 hB9⟩
    | some r =>
      have hJF := join_full hj
      have hrw := jn_wf hj
      have ha32 : -2147483648 ≤ a ∧ a ≤ 2147483647 := ⟨ha, ha2⟩
      have hfl := full_len a
      have HCR : Hid (C32 [a, b]) := Lib.hid (by intro x hx; simp only [List.mem_cons, List.not_mem_nil, or_false] at hx; omega)
      have HRU : Hid (Runs 19 (dec [a, b])) := Lib.hid (dec_short (by simp))
      have HF := Lib.hid hJF.1
      have HN := Lib.hid hJF.2
      obtain ⟨n, hn⟩ : ∃ n, (full a).length = n := ⟨_, rfl⟩
      have HFA : Hid (full a = full a) := Lib.hid rfl
      have hnr : (full r).length = n + 1 := by rw [HF.out, List.length_append, hn]; rfl
      have HSR := Lib.hid (fun w => Split_row r (full r) (n + 1) w (by omega) rfl hnr)
      have HSA := Lib.hid (fun w => Split_row a (full a) n w ha32 rfl hn)
      rw [hn] at hfl
      have HNR := Lib.hid hnr
      have HNA := Lib.hid hn
      generalize full r = R at HF HSR HNR
      generalize full a = F at HF HSA HNA
      clear HFA hn hnr hJF
      go_enter Tryz.func7, Tryz.ntmps7
      go_wp2_with fail
      refine (Join_is a b _ _ ⟨ha, ha2⟩ ⟨hb, hb2⟩ hj).mono ?_
      rintro e w1 ⟨rfl, hW1⟩
      clear hj
      go_wp2_with fail
      refine (HSR.out _).mono ?_
      rintro e w2 ⟨A2, c2, rfl, hr2, hB2⟩
      have hW2 := upB hW1 hB2
      clear hB2 hW1
      go_wp2_with fail
      refine (HSA.out _).mono ?_
      rintro e w3 ⟨A3, c3, rfl, hr3, hB3⟩
      have hE2 := own_empty w2 w2.heap.size 21 (Nat.le_refl _)
      have hE3 := own_below hE2 hB3
      have hK3 : Below w2.heap.size w2 w3 := (upA w2 (.cells #[] 21)).trans (hB3.mono (upA w2 (.cells #[] 21)).size)
      have hcn : (cl .i32 F).length = n * 1 := by rw [Nat.mul_one, ← HNA.out]; simp [cl]
      clear hB3 hE2
      go_wp2_with (first | (at_builtin; refine wpList_append_row _ rfl _ _ 22 rfl w2.heap.size 21 i0 (.int .i32 0) 1 4 Tryz.underlying22 hi hz0 hz1 hz2 rfl (by decide) _ 0 [] rfl hE3 _ _ n _ (cl .i32 F) rfl hcn hr3 (one_cl _ _) (by unfold maxLen; omega) (by omega) hK3.size ?_; intro v4 w4 hO4 hg4; have hK4 : Below w2.heap.size w2 w4 := hK3.grown hg4 hK3.size (fun j e => (hE3.lt j e).1); clear hE3 hK3 hr3 hcn) | (at_builtin; refine wpList_append_row _ rfl _ _ 22 rfl w2.heap.size 21 i0 (.int .i32 0) 1 4 Tryz.underlying22 hi hz0 hz1 hz2 rfl (by decide) v4 (0 + n) ([] ++ cl .i32 F) rfl (hO4.alloc _) _ _ 1 1 [.int .i32 b] rfl rfl (row_new' _ _ _ _ rfl) (by simp [Value.oneCell']) (by unfold maxLen; omega) (by omega) (hK4.alloc hK4.size _).size ?_; intro v5 w5 hO5' hg5; have hK5 : Below w2.heap.size w2 w5 := (hK4.alloc hK4.size _).grown hg5 (hK4.alloc hK4.size _).size (fun j e => (hO4.lt j e).1); have hO5 : w5.ownsRow w2.heap.size 21 1 v5 (n + 1) (cl .i32 R) := own_glue HF.out hO5'; obtain ⟨A5, c5, rfl⟩ := own_shape hO5; clear hK4 hO4 hO5') | fail)
      have hr5 := Row.of_own hO5
      have hr25 := hr2.up hK5
      have hW5 := hW2.trans (hK5.mono hW2.size)
      refine (Same_self R _ _ (n + 1) _ _ _ HNR.out (by omega) hr25 hr5).mono ?_
      rintro e w6 ⟨rfl, hB6⟩
      have hW6 := upB hW5 hB6
      clear hB6 hr5 hr25 hW5 hO5 hr2 hW2 hK5
      go_wp2_with fail
      refine (NFC_row 19 stable19 [a, b] [r] _ 2 _ 1 _ rfl (by omega) HCR.out (row_new' _ _ _ _ rfl) HRU.out HN.out rfl).mono ?_
      rintro e w7 ⟨A7, c7, rfl, hr7, hB7⟩
      have hW7 := upB hW6 (stepB hB7)
      clear hB7 hW6
      go_wp2_with fail
      refine (Same_self [r] _ _ 1 _ _ _ rfl (by omega) (hr7.up (upA _ _)) (row_new' _ _ _ _ rfl)).mono ?_
      rintro e w8 ⟨rfl, hB8⟩
      have hW8 := upB hW7 (stepB hB8)
      clear hB8 hW7 hr7
      go_wp2_with fail
      go_loopg [10, 50] zs.length (fun m s10 s50 wr => ∃ k : Nat, s50 = .int .i64 (k : Int) ∧ m = zs.length - k ∧ k ≤ zs.length ∧ wr.ownsRow w.heap.size 21 1 s10 k (cl .i32 (a7 (zs.take k))) ∧ Below w.heap.size w wr)
      case atStart => exact ⟨0, rfl, rfl, Nat.zero_le _, World.ownsRow_nil _ _ _ _, hW8⟩
      case round =>
        obtain ⟨k, rfl, rfl, hk, hO, hBr⟩ := hrel
        by_cases hlt : k < zs.length
        · have hltz : (k : Int) < (zs.length : Int) := by omega
          have HTK := Lib.hid (a7_take hlt)
          have hx8 := wf8 (hwf _ (List.getElem_mem hlt))
          obtain ⟨g0, o0, rfl, hg0, hcc⟩ := (hrow.below hBr).at_ (by simp; omega)
          have c0 := hcc k (by simpa using hlt)
          rw [cl_get _ _ _ hlt] at c0
          obtain ⟨x, hx⟩ : ∃ x, zs[k] = x := ⟨_, rfl⟩
          rw [hx] at c0 HTK hx8
          clear hx hcc
          have htm : x.tmod 128 = x % 128 := Int.tmod_eq_emod_of_nonneg hx8.1
          go_wp2_with (first | (at_builtin; refine wpList_append_row _ rfl _ _ 22 rfl w.heap.size 21 i0 (.int .i32 0) 1 4 Tryz.underlying22 hi hz0 hz1 hz2 rfl (by decide) _ k _ rfl (hO.alloc _) _ _ 1 1 [.int .i32 (x % 128)] rfl rfl (row_new' _ _ _ _ rfl) (by simp [Value.oneCell']) (by unfold maxLen; omega) (by omega) (hBr.alloc hBr.size _).size ?_; intro v5 w5 hO5 hg5) | fail)
          go_roundg (zs.length - (k + 1))
          case measure => omega
          case rel =>
            refine ⟨k + 1, by go_num, rfl, by omega, ?_, (hBr.alloc hBr.size (.cells #[.int .i32 (x % 128)] 21)).grown hg5 (hBr.alloc hBr.size _).size (fun j e => (hO.lt j e).1)⟩
            rw [HTK.out]
            exact hO5
        · obtain rfl : k = zs.length := by omega
          have hltz : ¬ ((zs.length : Nat) : Int) < (zs.length : Int) := by omega
          rw [List.take_length] at hO
          obtain ⟨AL, cL, rfl⟩ := own_shape hO
          have hrl := Row.of_own hO
          generalize a7 zs = M at HAS HAR HAC HAL hrl
          clear hO hwf hrow
          go_wp2_with fail
          refine (Is_row 19 stable19 M _ zs.length _ _ HAL.out (by omega) HAC.out hrl HAR.out HAS.out.2).mono ?_
          rintro e w6 ⟨rfl, hB6⟩
          have hr6 := hrl.up hB6
          have hW6 := upB hBr hB6
          clear hB6 hBr hrl
          go_wp2_with fail
          refine (NFD_row 19 stable19 M M _ zs.length _ zs.length _ HAL.out (by omega) HAC.out hr6 HAR.out HAS.out.1 HAL.out).mono ?_
          rintro e w7 ⟨A7, c7, rfl, hr7, hB7⟩
          have hr8 := hr6.up hB7
          have hW7 := upB hW6 hB7
          clear hB7 hr6 hW6
          go_wp2_with fail
          refine (Same_self M _ _ zs.length _ _ _ HAL.out (by omega) hr7 hr8).mono ?_
          rintro e w8 ⟨rfl, hB8⟩
          have hW8 := upB hW7 hB8
          clear hB8 hW7 hr7 hr8
          go_wp2_with fail
          refine (awake_any _).mono ?_
          rintro e w9 ⟨rfl, hB9⟩
          go_wp2_with fail
          go_ret
          exact ⟨rfl, upB hW8 hB9⟩

/-! From the walk to the given statement. -/
set_option linter.unusedVariables false
theorem own : ownKnob Tryz.prog.godebug = none := by kernel_rfl
theorem laidOut : laidOutB Tryz.prog = true := by kernel_rfl
set_option maxRecDepth 100000 in
theorem lifted (os : Os) (started : os.Started) (H : Type) (enc : TypeId × Value → H) :
    ReturnsInHanded {} Tryz.checked os 7 .any (fun w args => (Rows.normPairsSpec.pre enc Tryz.prog Tryz.f7 [] false w args ∧ laidMetH Tryz.prog Rows.normPairsRow.laid w) ∧ sizedMet enc Tryz.prog Tryz.f7 (OpenSpec.ofChange Rows.normPairsSpec) false w args)
      (Rows.normPairsSpec.post enc Tryz.prog Tryz.f7 false true false false) := by
  refine returnsInHanded_of_change_and (C := Tryz.checked) (X := fun w _ => laidMetH Tryz.prog Rows.normPairsRow.laid w) (fun _ _ _ hh h => h.of_heap hh) own started (by kernel_rfl) Tryz.func7
    (ChangeSpec.witness_shaped (enc := enc) (C := Tryz.checked) (os := os) (X := fun w _ => laidMetH Tryz.prog Rows.normPairsRow.laid w) false (World.laidAll Tryz.prog os Rows.normPairsRow.laid) #[.int .i32 0, .int .i32 0, .slice none 0 0] 8 (World.laidAll_os _ _ _)
      (World.shaped_of_ZipB (by kernel_rfl) (by kernel_rfl)) (by kernel_rfl) (by kernel_rfl) (by kernel_rfl)
      (by rw [MakeChecks.laidMetH_plain _ _ _ (by kernel_rfl)]; exact laidMet_laidAll _ (by kernel_rfl) (by kernel_rfl))) ?_
  intro W base args ds gs before hval0 hW _ _ hL _
  have hval : ∀ (j : Nat) t v, Tryz.f7.params[j]? = some t → args[j]? = some v → Value.okWide Tryz.prog W .any base t v := hval0
  have hW' := hW
  obtain ⟨p, q, hA0, hV, rfl, _, _⟩ := hW
  have hA : DataW.TrodAll enc Tryz.prog W 0 (fun _ => true) true Tryz.f7.params.toList args.toList ds p := hA0
  rw [Tryz.params7] at hA hval
  obtain ⟨v0, vs0, d0, ds0, p0, q0, hargs, rfl, rfl, h0, r0⟩ := trodAll_cons hA
  obtain ⟨v1, vs1, d1, ds1, p1, q1, rfl, rfl, rfl, h1, r1⟩ := trodAll_cons r0
  obtain ⟨v2, vs2, d2, ds2, p2, q2, rfl, rfl, rfl, h2, r2⟩ := trodAll_cons r1
  obtain ⟨rfl, rfl, rfl⟩ := trodAll_nil r2
  obtain rfl : args = #[v0, v1, v2] := by cases args; simp_all
  obtain ⟨rfl, rfl⟩ := trodVars_none hV
  obtain ⟨a0, rfl, rfl, rfl, w0⟩ := open_int Tryz.underlying21 (hval 0 21 v0 rfl rfl) h0
  have b0 : -2147483648 ≤ a0 ∧ a0 ≤ 2147483647 := by simpa [Lit.wf, IntKind.min, IntKind.max, IntKind.signed, IntKind.bits] using w0
  obtain ⟨a1, rfl, rfl, rfl, w1⟩ := open_int Tryz.underlying21 (hval 1 21 v1 rfl rfl) h1
  have b1 : -2147483648 ≤ a1 ∧ a1 ≤ 2147483647 := by simpa [Lit.wf, IntKind.min, IntKind.max, IntKind.signed, IntKind.bits] using w1
  obtain ⟨a2, len2, cap2, rfl⟩ := okWide_slice Tryz.underlying37 (hval 2 37 v2 rfl rfl)
  have k2 := h2
  have lt2 : ∀ x ∈ p2, x.block < W.heap.size := by obtain ⟨m, hm⟩ := k2; exact DataW.trod_lt m _ _ _ hm
  obtain ⟨z2, w2⟩ := in_row Tryz.underlying37 Tryz.underlying5 (by kernel_rfl) h2
  clear hA0 hval0
  refine (walk a0 a1 a2 len2 cap2 z2 W b0.1 b0.2 b1.1 b1.2 w2).mono fun e W' ⟨he, bel⟩ => ?_
  subst he
  exact ⟨_, rfl, _, _, _, [], _, [], hW', trodAll_mk1 (shut_bool Tryz.underlying4 _), (trodAll_cons_mk (shut_int Tryz.underlying21 w0) (trodAll_cons_mk (shut_int Tryz.underlying21 w1) (trodAll_cons_mk (Below.trod laidOut (by kernel_rfl) (of_decide_eq_true (by kernel_rfl)) k2 bel lt2) trodAll_mk0))), rfl, bel.frame _, fun h => by cases h⟩

theorem row_holds : Rows.NormPairsSaid :=
  OpenClaim.holds_of_wide 7 Tryz.f7 rfl rfl rfl rfl rfl rfl rfl ⟨rfl, rfl, rfl, rfl, rfl⟩ rfl rfl rfl rfl rfl (by kernel_rfl) Tryz.func7 (by kernel_rfl)
    (of_decide_eq_true (by kernel_rfl)) (by unfold Func.isWrapper; first | (rw [if_pos (by decide +kernel)]; kernel_rfl) | (rw [if_neg (by decide +kernel)]; exact ⟨rfl, rfl⟩))
    (fun os started H enc _ => lifted os started H enc)

theorem proved : Rows.NormPairsCardSaid :=
  Claim7.holds_tied_plain_at .later [] [.data, .data, .data, .data, .sentinel, .sentinel, .pinned] true (true,"42a97f228551bc89a256fe65bf60eb17b654701c6bd6ee727805ac1dfa6e97bd") true
    row_holds (fun _ h => by cases h) (by kernel_rfl) (fun _ h => by cases h) normPairs_row_tie rfl ⟨rfl, rfl⟩ (by kernel_rfl) rfl
    (fun f fn hf hfn => by
      obtain rfl : f = 7 := Option.some.inj ((show Tryz.prog.funcNamed "fascia/fascialaw05.NormPairs" = some 7 by kernel_rfl).symm.trans hf) |>.symm
      obtain rfl : fn = Tryz.f7 := (Option.some.inj (Tryz.func7.symm.trans hfn)).symm
      exact ⟨by kernel_rfl, fun j t ht => by
        rw [Tryz.params7] at ht
        have hm : t ∈ [21, 21, 37] := by simpa using Array.mem_of_getElem? ht
        have hall : ([21, 21, 37].all fun u => !Tryz.prog.wantsStandIn u) = true := by kernel_rfl
        exact (show Tryz.prog.wantsStandIn t = false by simpa using List.all_eq_true.1 hall t hm)⟩)
    (by kernel_rfl)
end Go.Proofs.YtncnagagigalhaaGreatDoor.normPairs
