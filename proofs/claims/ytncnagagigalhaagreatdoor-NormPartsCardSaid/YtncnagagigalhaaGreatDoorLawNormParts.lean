/-
  For any two rows of code points (up to 100), the second one with a plain letter ahead: they may be taken apart, and put together, part by part (fascialaw05.NormParts answers true). No condition.
-/
import Derived.Test.YtncnagagigalhaaGreatDoorNormX
import Derived.Test.YtncnagagigalhaaGreatDoorStabH
import Derived.Test.YtncnagagigalhaaGreatDoorFrame
import Derived.Test.YtncnagagigalhaaGreatDoorFrame
import Derived.Test.YtncnagagigalhaaGreatDoorTie
import Derived.Test.YtncnagagigalhaaGreatDoorCards
import Derived.ProofKit
import Derived.Lay
import Derived.Stop.Joined
import Derived.SevenTiedAt
namespace Go.Proofs.YtncnagagigalhaaGreatDoor.normParts
open Go.ChangeShapes Go.WideShapes Go.ChangeAt Go.RowKit Norm

theorem in_c32 {zs : List Int} (h : ∀ n ∈ zs, (Lit.int .i32 n).wf = true) : C32 zs := fun x hx => wf32 (h x hx)
theorem own_lit (w : World) (base : Nat) (e : TypeId) (v : Value) (hb : base ≤ w.heap.size) : (w.alloc (.cells #[v] e)).ownsRow base e 1 (.slice (some ⟨w.heap.size, 0, none⟩) 1 1) 1 [v] :=
  ⟨rfl, .inr ⟨w.heap.size, 1, #[v], rfl, hb, heap_alloc_new w _, Nat.le_refl _, by unfold maxLen; omega, rfl, rfl⟩⟩
theorem run100 {l : List Int} {k : Nat} (h : l.length = k) (hk : k ≤ 1000) : Runs 100000 (dec l) := runs_short (by have := dec_len l; omega)
theorem NFC_own (l R : List Int) (A : Option Addr) (k cap : Nat) (w : World) (hk : l.length = k) (hl : k ≤ 1000) (hC : C32 l) (hr : Row w w.heap.size A (cl .i32 l)) (h : nfc l = R) : Calls Tryz.prog 18 #[.slice A k cap] w (MadeV w R) := by
  have hR := run100 hk hl
  subst hk
  subst h
  exact (NFC_any 100000 stable_any l A cap w hl hC hr hR).mono fun _ _ ⟨g, c, he, ho, hb⟩ => ⟨_, c, he, ho, hb⟩
theorem NFD_own (l R : List Int) (A : Option Addr) (k cap : Nat) (w : World) (hk : l.length = k) (hl : k ≤ 1000) (hC : C32 l) (hr : Row w w.heap.size A (cl .i32 l)) (h : nfd l = R) : Calls Tryz.prog 15 #[.slice A k cap] w (MadeV w R) := by
  have hR := run100 hk hl
  subst hk
  subst h
  exact NFD_any 100000 stable_any l A cap w hl hC hr hR
theorem wpList_append_g {P : Program} (w : World) {ops : Array Oper} {rest : List Oper} {o : Oper} {a : Act} {Q : Exit → Act → World → Prop} (hgd : Region.wanted o (yielded ops a.tmps) = true) (s x : Operand) (t : TypeId)
    (ho : o.op = .call { callee := .builtin .append, args := #[s, x], argTypes := #[t, t] })
    (base : Nat) (e : TypeId) (i : TypeInfo) (z : Value) (size bytes : Nat) (ht : P.underlying t = some (.slice e)) (hi : P.info? e = some i) (hz : i.zero = some z)
    (hsize : i.size = size) (hby : i.bytes = bytes) (hzs : z.cells.size = size) (hsz : 0 < size) (v : Value) (n : Nat) (xs : List Value) (hs : a.eval s = v) (hown : w.ownsRow base e size v n xs)
    (B : Nat) (A : Option Addr) (m c : Nat) (news : List Value) (hx : a.eval x = .slice A m c) (hl : news.length = m * size) (hr : Row w B A news) (h1 : ∀ u ∈ news, u.oneCell' = true)
    (h63 : n + m ≤ maxLen) (hbytes : (n + m) * bytes ≤ 140737488355328) (hbase : base ≤ w.heap.size)
    (h : ∀ v' w', w'.ownsRow base e size v' (n + m) (xs ++ news) → w.grownBy w' v.ownBlock → wpList P ops Q rest (a.put o.dst v') w') : wpList P ops Q (o :: rest) a w := by
  refine wpList_step fun K hK => ?_
  obtain ⟨v', w', hr, h2, h3⟩ := run_append_row (P := P) w base t o.type e i z size bytes ht hi hz hsize hby hzs hsz v n xs hown B A m c news hl hr h1 h63 hbytes hbase
  simp only [hgd, if_true]
  unfold Oper.wp execOp
  simp only [ho, resolve, invoke, builtin, Sem.run_bind, Sem.run_pure, Result.andThen_ok, List.map_toArray, List.map_cons, List.map_nil, hs, hx, hr]
  exact hK _ _ (h v' w' h2 h3)
theorem nfc_ln (l : List Int) (k : Nat) (hk : l.length = k) (hC : C32 l) : (nfc l).length ≤ k * 5 := by subst hk; exact nfc_len l hC
theorem nfd_ln (l : List Int) (k : Nat) (hk : l.length = k) (_ : C32 l) : (nfd l).length ≤ k * 5 := by subst hk; rw [nfd_len]; exact dec_len l
theorem cl_app (a b : List Int) : cl .i32 (a ++ b) = cl .i32 a ++ cl .i32 b := by simp [cl]
theorem Same_glue (l : List Int) (A B : Option Addr) (n m c d : Nat) (w : World) (hn : l.length = n) (hm : l.length = m) (hn1 : n ≤ 1000000) (hra : Row w w.heap.size A (cl .i32 l)) (hrb : Row w w.heap.size B (cl .i32 l)) :
    Calls Tryz.prog 12 #[.slice A n c, .slice B m d] w (IsB true w) := by
  have := Same_any l l A B n m c d w hn hm hn1 (by omega) hra hrb
  rw [decide_eq_true rfl] at this
  exact this
set_option maxRecDepth 100000 in
set_option maxHeartbeats 1000000 in
theorem walk (A : Option Addr) (n1 cap1 : Nat) (l : List Int) (B : Option Addr) (n2 cap2 : Nat) (o : List Int) (c : Int) (w : World) (hin : InRow .i32 w A n1 cap1 l) (hin2 : InRow .i32 w B n2 cap2 o) (hc : 0 ≤ c) (_hc2 : c ≤ 255) : Calls Tryz.prog 8 #[.slice A n1 cap1, .slice B n2 cap2, .int .u8 c] w fun e w' => e = .returned (.bool true) ∧ Below w.heap.size w w' := by
  obtain ⟨hlen, _, _, hrow, hwf⟩ := hin
  obtain ⟨hlen2, _, _, hrow2, hwf2⟩ := hin2
  obtain ⟨i0, hi, hz0, hz1, hz2⟩ := info_split info_int32
  by_cases h100 : 100 < n1
  · have h100z : (100 : Int) < (n1 : Int) := by omega
    go_enter Tryz.func8, Tryz.ntmps8
    go_wp2_with fail
    refine (awake_any _).mono ?_
    rintro e w1 ⟨rfl, hB1⟩
    go_wp2_with fail
    go_ret
    exact ⟨rfl, hB1⟩
  · have h100z : ¬ (100 : Int) < (n1 : Int) := by omega
    by_cases h200 : 100 < n2
    · have h200z : (100 : Int) < (n2 : Int) := by omega
      go_enter Tryz.func8, Tryz.ntmps8
      go_wp2_with fail
      refine (awake_any _).mono ?_
      rintro e w1 ⟨rfl, hB1⟩
      go_wp2_with fail
      go_ret
      exact ⟨rfl, hB1⟩
    · have h200z : ¬ (100 : Int) < (n2 : Int) := by omega
      have hc32 := in_c32 hwf
      have hc322 := in_c32 hwf2
      have htm : c.tmod 26 = c % 26 := Int.tmod_eq_emod_of_nonneg hc
      obtain ⟨x, hx⟩ : ∃ x, 97 + c % 26 = x := ⟨_, rfl⟩
      have hxb : 0 ≤ x ∧ x < 128 := by omega
      have HX := Lib.hid hx
      have HP1 := Lib.hid (nfc_parts hxb l o)
      have HP2 := Lib.hid (nfd_parts hxb l o)
      have HCO : Hid (C32 (x :: o)) := Lib.hid (by intro y hy; rcases List.mem_cons.1 hy with rfl | hy; omega; exact hc322 y hy)
      have HCL := Lib.hid hc32
      have HCB : Hid (C32 (l ++ x :: o)) := Lib.hid (by intro y hy; rcases List.mem_append.1 hy with hy | hy; exact hc32 y hy; exact HCO.out y hy)
      have HL1 := Lib.hid hlen
      have HL2 : Hid ((x :: o).length = 1 + n2) := Lib.hid (by rw [List.length_cons]; omega)
      have HL3 : Hid ((l ++ x :: o).length = 0 + n1 + (1 + n2)) := Lib.hid (by rw [List.length_append, List.length_cons]; omega)
      have hk1 : (cl .i32 l).length = n1 * 1 := by rw [Nat.mul_one, ← hlen]; simp [cl]
      have hk2 : (cl .i32 o).length = n2 * 1 := by rw [Nat.mul_one, ← hlen2]; simp [cl]
      have hk3 : (cl .i32 (x :: o)).length = (1 + n2) * 1 := by rw [Nat.mul_one]; simp [cl]; omega
      clear hwf hwf2 hc32 hc322 hlen hlen2
      go_enter Tryz.func8, Tryz.ntmps8
      have hE0 := own_lit w w.heap.size 21 (.int .i32 x) (Nat.le_refl _)
      have hE1 : Below w.heap.size w (w.alloc (.cells #[.int .i32 x] 21)) := upA w _
      go_upto_region 4 with (first | (at_builtin; refine wpList_append_row _ rfl _ _ 22 rfl w.heap.size 21 i0 (.int .i32 0) 1 4 Tryz.underlying22 hi hz0 hz1 hz2 rfl (by decide) _ 1 [.int .i32 x] rfl hE0 _ _ n2 _ (cl .i32 o) rfl hk2 (hrow2.up hE1) (one_cl _ _) (by unfold maxLen; omega) (by omega) hE1.size ?_; intro v1 w1 hO1' hg1) | fail)
      have hO1 : w1.ownsRow w.heap.size 21 1 v1 (1 + n2) (cl .i32 (x :: o)) := hO1'
      have hW1 : Below w.heap.size w w1 := hE1.grown hg1 hE1.size (fun j e => (hE0.lt j e).1)
      obtain ⟨A1, c1, rfl⟩ := own_shape hO1
      have hr1 := Row.of_own hO1
      clear hE0 hE1 hg1 hO1' hO1 hx
      have hl1 := hrow.up hW1
      have hF0 := own_empty w1 w1.heap.size 21 (Nat.le_refl _)
      have hF1 : Below w1.heap.size w1 (w1.alloc (.cells #[] 21)) := upA w1 _
      have hcl1 := hl1
      go_upto_region 5 with (first
        | (at_builtin; refine wpList_append_row _ rfl _ _ 22 rfl w1.heap.size 21 i0 (.int .i32 0) 1 4 Tryz.underlying22 hi hz0 hz1 hz2 rfl (by decide) _ 0 [] rfl hF0 _ _ n1 _ (cl .i32 l) rfl hk1 (hcl1.up hF1) (one_cl _ _) (by unfold maxLen; omega) (by omega) hF1.size ?_; intro v2 w2 hO2 hg2; have hK2 : Below w1.heap.size w1 w2 := hF1.grown hg2 hF1.size (fun j e => (hF0.lt j e).1); clear hF0 hF1 hcl1)
        | (at_builtin; refine wpList_append_row _ rfl _ _ 22 rfl w1.heap.size 21 i0 (.int .i32 0) 1 4 Tryz.underlying22 hi hz0 hz1 hz2 rfl (by decide) v2 (0 + n1) ([] ++ cl .i32 l) rfl hO2 _ _ (1 + n2) _ (cl .i32 (x :: o)) rfl hk3 (hr1.up hK2) (one_cl _ _) (by unfold maxLen; omega) (by omega) hK2.size ?_; intro v3 w3 hO3' hg3; have hK3 : Below w1.heap.size w1 w3 := hK2.grown hg3 hK2.size (fun j e => (hO2.lt j e).1))
        | fail)
      have hO3 : w3.ownsRow w1.heap.size 21 1 v3 (0 + n1 + (1 + n2)) (cl .i32 (l ++ x :: o)) := by rw [cl_app]; exact hO3'
      obtain ⟨A3, c3, rfl⟩ := own_shape hO3
      have hrb := Row.of_own hO3
      have hro := hr1.up hK3
      have hrl := hl1.up hK3
      have hW3 := hW1.trans (hK3.mono hW1.size)
      clear hO3 hO3' hg3 hK3 hK2 hO2 hr1 hl1 hW1 hk1 hk2 hk3
      obtain ⟨RL10, hRL10⟩ : ∃ R, nfc l = R := ⟨_, rfl⟩
      obtain ⟨RO10, hRO10⟩ : ∃ R, nfc (x :: o) = R := ⟨_, rfl⟩
      have hgl10 := HP1.out
      rw [hRL10, hRO10] at hgl10
      have q110 := nfc_ln l n1 HL1.out HCL.out
      have q210 := nfc_ln (x :: o) (1 + n2) HL2.out HCO.out
      rw [hRL10] at q110
      rw [hRO10] at q210
      have HRL10 := Lib.hid hRL10
      have HRO10 := Lib.hid hRO10
      have HGL10 := Lib.hid hgl10
      clear hRL10 hRO10 hgl10
      go_wp2_with fail
      refine (NFC_own (l ++ x :: o) (RL10 ++ RO10) _ _ _ _ (by have := HL3.out; omega) (by omega) HCB.out hrb HGL10.out).mono ?_
      rintro e w11 ⟨B10, d10, rfl, hq10, hB10⟩
      have hrB10 := Row.of_own hq10
      have hlw11 := hrl.up hB10
      have how11 := hro.up hB10
      have hbw11 := hrb.up hB10
      have hWw11 := upB hW3 hB10
      clear hq10 hB10 hrl hro hrb hW3
      go_wp2_with fail
      refine (NFC_own l RL10 _ n1 _ _ HL1.out (by omega) HCL.out hlw11 HRL10.out).mono ?_
      rintro e w12 ⟨C10, e10, rfl, hd10, hKw12⟩
      go_wp2_with fail
      refine (NFC_own (x :: o) RO10 _ (1 + n2) _ _ HL2.out (by omega) HCO.out (how11.up hKw12) HRO10.out).mono ?_
      rintro e w13 ⟨D10, f10, rfl, hs10, hB10⟩
      have hsr10 := Row.of_own hs10
      have hd310 := own_below hd10 hB10
      have hKw13 := upB hKw12 hB10
      have hcn10 : (cl .i32 RO10).length = RO10.length * 1 := by rw [Nat.mul_one]; simp [cl]
      clear hB10 hKw12 hd10 hs10
      go_wp2_with (first | (at_builtin; refine wpList_append_g _ (by first | rfl | kernel_rfl | simp [Region.wanted, yielded]) _ _ 22 rfl w11.heap.size 21 i0 (.int .i32 0) 1 4 Tryz.underlying22 hi hz0 hz1 hz2 rfl (by decide) _ RL10.length (cl .i32 RL10) rfl hd310 _ _ RO10.length _ (cl .i32 RO10) rfl hcn10 hsr10 (one_cl _ _) (by unfold maxLen; omega) (by omega) hKw13.size ?_; intro v10 w14 hO10' hg10; obtain ⟨E10, h10, hv10⟩ := own_shape hO10'; subst hv10) | fail)
      have hKw14 : Below w11.heap.size w11 w14 := hKw13.grown hg10 hKw13.size (fun j e => (hd310.lt j e).1)
      have hrE10 : Row w14 w14.heap.size E10 (cl .i32 (RL10 ++ RO10)) := by rw [cl_app]; exact Row.of_own hO10'
      refine (Same_glue (RL10 ++ RO10) _ _ _ _ _ _ _ (by first | rfl | exact List.length_append) (by first | rfl | exact List.length_append) (by first | omega | (rw [List.length_append]; omega)) (hrB10.up hKw14) hrE10).mono ?_
      rintro e w15 ⟨rfl, hB10⟩
      have hWw15 := upB (hWw11.trans (hKw14.mono hWw11.size)) hB10
      have hlw15 := (hlw11.up hKw14).up hB10
      have hbw15 := (hbw11.up hKw14).up hB10
      have how15 := (how11.up hKw14).up hB10
      clear hrB10 hrE10 hO10' hd310 hsr10 hg10 hB10 hlw11 hbw11 how11 hWw11 hKw13 hKw14 q110 q210
      obtain ⟨RL20, hRL20⟩ : ∃ R, nfd l = R := ⟨_, rfl⟩
      obtain ⟨RO20, hRO20⟩ : ∃ R, nfd (x :: o) = R := ⟨_, rfl⟩
      have hgl20 := HP2.out
      rw [hRL20, hRO20] at hgl20
      have q120 := nfd_ln l n1 HL1.out HCL.out
      have q220 := nfd_ln (x :: o) (1 + n2) HL2.out HCO.out
      rw [hRL20] at q120
      rw [hRO20] at q220
      have HRL20 := Lib.hid hRL20
      have HRO20 := Lib.hid hRO20
      have HGL20 := Lib.hid hgl20
      clear hRL20 hRO20 hgl20
      go_wp2_with fail
      refine (NFD_own (l ++ x :: o) (RL20 ++ RO20) _ _ _ _ (by have := HL3.out; omega) (by omega) HCB.out hbw15 HGL20.out).mono ?_
      rintro e w21 ⟨B20, d20, rfl, hq20, hB20⟩
      have hrB20 := Row.of_own hq20
      have hlw21 := hlw15.up hB20
      have how21 := how15.up hB20
      have hbw21 := hbw15.up hB20
      have hWw21 := upB hWw15 hB20
      clear hq20 hB20 hlw15 how15 hbw15 hWw15
      go_wp2_with fail
      refine (NFD_own l RL20 _ n1 _ _ HL1.out (by omega) HCL.out hlw21 HRL20.out).mono ?_
      rintro e w22 ⟨C20, e20, rfl, hd20, hKw22⟩
      go_wp2_with fail
      refine (NFD_own (x :: o) RO20 _ (1 + n2) _ _ HL2.out (by omega) HCO.out (how21.up hKw22) HRO20.out).mono ?_
      rintro e w23 ⟨D20, f20, rfl, hs20, hB20⟩
      have hsr20 := Row.of_own hs20
      have hd320 := own_below hd20 hB20
      have hKw23 := upB hKw22 hB20
      have hcn20 : (cl .i32 RO20).length = RO20.length * 1 := by rw [Nat.mul_one]; simp [cl]
      clear hB20 hKw22 hd20 hs20
      go_wp2_with (first | (at_builtin; refine wpList_append_g _ (by first | rfl | kernel_rfl | simp [Region.wanted, yielded]) _ _ 22 rfl w21.heap.size 21 i0 (.int .i32 0) 1 4 Tryz.underlying22 hi hz0 hz1 hz2 rfl (by decide) _ RL20.length (cl .i32 RL20) rfl hd320 _ _ RO20.length _ (cl .i32 RO20) rfl hcn20 hsr20 (one_cl _ _) (by unfold maxLen; omega) (by omega) hKw23.size ?_; intro v20 w24 hO20' hg20; obtain ⟨E20, h20, hv20⟩ := own_shape hO20'; subst hv20) | fail)
      have hKw24 : Below w21.heap.size w21 w24 := hKw23.grown hg20 hKw23.size (fun j e => (hd320.lt j e).1)
      have hrE20 : Row w24 w24.heap.size E20 (cl .i32 (RL20 ++ RO20)) := by rw [cl_app]; exact Row.of_own hO20'
      refine (Same_glue (RL20 ++ RO20) _ _ _ _ _ _ _ (by first | rfl | exact List.length_append) (by first | rfl | exact List.length_append) (by first | omega | (rw [List.length_append]; omega)) (hrB20.up hKw24) hrE20).mono ?_
      rintro e w25 ⟨rfl, hB20⟩
      have hWw25 := upB (hWw21.trans (hKw24.mono hWw21.size)) hB20
      have hlw25 := (hlw21.up hKw24).up hB20
      have hbw25 := (hbw21.up hKw24).up hB20
      have how25 := (how21.up hKw24).up hB20
      clear hrB20 hrE20 hO20' hd320 hsr20 hg20 hB20 hlw21 hbw21 how21 hWw21 hKw23 hKw24 q120 q220
      go_wp2_with fail
      refine (awake_any _).mono ?_
      rintro e w30 ⟨rfl, hB30⟩
      go_wp2_with fail
      go_ret
      exact ⟨rfl, upB hWw25 hB30⟩

/-! From the walk to the given statement. -/
set_option linter.unusedVariables false
theorem own : ownKnob Tryz.prog.godebug = none := by kernel_rfl
theorem laidOut : laidOutB Tryz.prog = true := by kernel_rfl
set_option maxRecDepth 100000 in
theorem lifted (os : Os) (started : os.Started) (H : Type) (enc : TypeId × Value → H) :
    ReturnsInHanded {} Tryz.checked os 8 .any (fun w args => (Rows.normPartsSpec.pre enc Tryz.prog Tryz.f8 [] false w args ∧ laidMetH Tryz.prog Rows.normPartsRow.laid w) ∧ sizedMet enc Tryz.prog Tryz.f8 (OpenSpec.ofChange Rows.normPartsSpec) false w args)
      (Rows.normPartsSpec.post enc Tryz.prog Tryz.f8 false true false false) := by
  refine returnsInHanded_of_change_and (C := Tryz.checked) (X := fun w _ => laidMetH Tryz.prog Rows.normPartsRow.laid w) (fun _ _ _ hh h => h.of_heap hh) own started (by kernel_rfl) Tryz.func8
    (ChangeSpec.witness_shaped (enc := enc) (C := Tryz.checked) (os := os) (X := fun w _ => laidMetH Tryz.prog Rows.normPartsRow.laid w) false (World.laidAll Tryz.prog os Rows.normPartsRow.laid) #[.slice none 0 0, .slice none 0 0, .int .u8 0] 8 (World.laidAll_os _ _ _)
      (World.shaped_of_ZipB (by kernel_rfl) (by kernel_rfl)) (by kernel_rfl) (by kernel_rfl) (by kernel_rfl)
      (by rw [MakeChecks.laidMetH_plain _ _ _ (by kernel_rfl)]; exact laidMet_laidAll _ (by kernel_rfl) (by kernel_rfl))) ?_
  intro W base args ds gs before hval0 hW _ _ hL _
  have hval : ∀ (j : Nat) t v, Tryz.f8.params[j]? = some t → args[j]? = some v → Value.okWide Tryz.prog W .any base t v := hval0
  have hW' := hW
  obtain ⟨p, q, hA0, hV, rfl, _, _⟩ := hW
  have hA : DataW.TrodAll enc Tryz.prog W 0 (fun _ => true) true Tryz.f8.params.toList args.toList ds p := hA0
  rw [Tryz.params8] at hA hval
  obtain ⟨v0, vs0, d0, ds0, p0, q0, hargs, rfl, rfl, h0, r0⟩ := trodAll_cons hA
  obtain ⟨v1, vs1, d1, ds1, p1, q1, rfl, rfl, rfl, h1, r1⟩ := trodAll_cons r0
  obtain ⟨v2, vs2, d2, ds2, p2, q2, rfl, rfl, rfl, h2, r2⟩ := trodAll_cons r1
  obtain ⟨rfl, rfl, rfl⟩ := trodAll_nil r2
  obtain rfl : args = #[v0, v1, v2] := by cases args; simp_all
  obtain ⟨rfl, rfl⟩ := trodVars_none hV
  obtain ⟨a0, len0, cap0, rfl⟩ := okWide_slice Tryz.underlying22 (hval 0 22 v0 rfl rfl)
  have k0 := h0
  have lt0 : ∀ x ∈ p0, x.block < W.heap.size := by obtain ⟨m, hm⟩ := k0; exact DataW.trod_lt m _ _ _ hm
  obtain ⟨z0, w0⟩ := in_row Tryz.underlying22 Tryz.underlying21 (by kernel_rfl) h0
  obtain ⟨a1, len1, cap1, rfl⟩ := okWide_slice Tryz.underlying22 (hval 1 22 v1 rfl rfl)
  have k1 := h1
  have lt1 : ∀ x ∈ p1, x.block < W.heap.size := by obtain ⟨m, hm⟩ := k1; exact DataW.trod_lt m _ _ _ hm
  obtain ⟨z1, w1⟩ := in_row Tryz.underlying22 Tryz.underlying21 (by kernel_rfl) h1
  obtain ⟨a2, rfl, rfl, rfl, w2⟩ := open_int Tryz.underlying5 (hval 2 5 v2 rfl rfl) h2
  have b2 : 0 ≤ a2 ∧ a2 ≤ 255 := by simpa [Lit.wf, IntKind.min, IntKind.max, IntKind.signed, IntKind.bits] using w2
  clear hA0 hval0
  refine (walk a0 len0 cap0 z0 a1 len1 cap1 z1 a2 W w0 w1 b2.1 b2.2).mono fun e W' ⟨he, bel⟩ => ?_
  subst he
  exact ⟨_, rfl, _, _, _, [], _, [], hW', trodAll_mk1 (shut_bool Tryz.underlying4 _), (trodAll_cons_mk (Below.trod laidOut (by kernel_rfl) (of_decide_eq_true (by kernel_rfl)) k0 bel lt0) (trodAll_cons_mk (Below.trod laidOut (by kernel_rfl) (of_decide_eq_true (by kernel_rfl)) k1 bel lt1) (trodAll_cons_mk (shut_int Tryz.underlying5 w2) trodAll_mk0))), rfl, bel.frame _, fun h => by cases h⟩

theorem row_holds : Rows.NormPartsSaid :=
  OpenClaim.holds_of_wide 8 Tryz.f8 rfl rfl rfl rfl rfl rfl rfl ⟨rfl, rfl, rfl, rfl, rfl⟩ rfl rfl rfl rfl rfl (by kernel_rfl) Tryz.func8 (by kernel_rfl)
    (of_decide_eq_true (by kernel_rfl)) (by unfold Func.isWrapper; first | (rw [if_pos (by decide +kernel)]; kernel_rfl) | (rw [if_neg (by decide +kernel)]; exact ⟨rfl, rfl⟩))
    (fun os started H enc _ => lifted os started H enc)

theorem proved : Rows.NormPartsCardSaid :=
  Claim7.holds_tied_plain_at .later [] [.data, .data, .data, .data, .sentinel, .sentinel, .pinned] true (true,"42a97f228551bc89a256fe65bf60eb17b654701c6bd6ee727805ac1dfa6e97bd") true
    row_holds (fun _ h => by cases h) (by kernel_rfl) (fun _ h => by cases h) normParts_row_tie rfl ⟨rfl, rfl⟩ (by kernel_rfl) rfl
    (fun f fn hf hfn => by
      obtain rfl : f = 8 := Option.some.inj ((show Tryz.prog.funcNamed "fascia/fascialaw05.NormParts" = some 8 by kernel_rfl).symm.trans hf) |>.symm
      obtain rfl : fn = Tryz.f8 := (Option.some.inj (Tryz.func8.symm.trans hfn)).symm
      exact ⟨by kernel_rfl, fun j t ht => by
        rw [Tryz.params8] at ht
        have hm : t ∈ [22, 22, 5] := by simpa using Array.mem_of_getElem? ht
        have hall : ([22, 22, 5].all fun u => !Tryz.prog.wantsStandIn u) = true := by kernel_rfl
        exact (show Tryz.prog.wantsStandIn t = false by simpa using List.all_eq_true.1 hall t hm)⟩)
    (by kernel_rfl)
end Go.Proofs.YtncnagagigalhaaGreatDoor.normParts
