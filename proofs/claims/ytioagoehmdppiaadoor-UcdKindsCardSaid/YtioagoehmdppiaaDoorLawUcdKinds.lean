/-
  Whatever has a combining class, or is of NSM, is a mark; marks have no digits; digits are ten to a system, beside one another; no letter is of a class of punctuation; and who is told of as a control has no width: for every row, every code point.
-/
import Derived.Test.YtioagoehmdppiaaDoorUcdOpen
import Derived.Test.YtioagoehmdppiaaDoorUcdKind
import Derived.IntWalk
import Derived.Test.YtioagoehmdppiaaDoorUcdLaid
import Derived.Test.YtioagoehmdppiaaDoorTie
import Derived.Test.YtioagoehmdppiaaDoorCards
import Derived.ProofKit
import Derived.Lay
import Derived.Stop.Joined
import Derived.SevenTiedAt
namespace Go.Proofs.YtioagoehmdppiaaDoor.ucdKinds
open Go.ChangeShapes Go.WideShapes Go.ChangeAt Go.RowKit Ucd

theorem i32_in (x : Int) (h0 : -2147483648 ≤ x) (h1 : x ≤ 2147483647) : IntKind.i32.wrap x = x := by
  simp [IntKind.wrap, IntKind.bits, IntKind.signed]
  omega
/-- a row in a block of its own -/
theorem nine (w : World) (i : Nat) : ∀ W, w.alloc (.cells #[.int .i32 (fr i), .int .i32 (to i), .int .u8 (g (pr i) 0), .int .u8 (g (pr i) 1), .int .u8 (g (pr i) 2), .int .u8 (g (pr i) 3), .int .u8 (g (pr i) 4), .int .u8 (g (pr i) 5), .int .u8 (g (pr i) 6)] 27) = W →
    W.cell? ⟨w.heap.size, 0, none⟩ = some (.int .i32 (fr i)) ∧ W.cell? ⟨w.heap.size, 1, none⟩ = some (.int .i32 (to i)) ∧ W.cell? ⟨w.heap.size, 2, none⟩ = some (.int .u8 (g (pr i) 0)) ∧ W.cell? ⟨w.heap.size, 3, none⟩ = some (.int .u8 (g (pr i) 1)) ∧ W.cell? ⟨w.heap.size, 4, none⟩ = some (.int .u8 (g (pr i) 2)) ∧ W.cell? ⟨w.heap.size, 5, none⟩ = some (.int .u8 (g (pr i) 3)) ∧ W.cell? ⟨w.heap.size, 6, none⟩ = some (.int .u8 (g (pr i) 4)) ∧ W.cell? ⟨w.heap.size, 7, none⟩ = some (.int .u8 (g (pr i) 5)) ∧ W.cell? ⟨w.heap.size, 8, none⟩ = some (.int .u8 (g (pr i) 6)) ∧ Below w.heap.size w W ∧ w.heap.size < W.heap.size := by
  rintro W rfl
  exact ⟨by simp, by simp, by simp, by simp, by simp, by simp, by simp, by simp, by simp, (Below.refl _ _).alloc (Nat.le_refl _) _, by simp⟩

/-- the row's own block, as far as it is asked at the end -/
def XAt (w : World) (X i : Nat) : Prop := X < w.heap.size ∧ w.cell? ⟨X, 0, none⟩ = some (.int .i32 (fr i)) ∧ w.cell? ⟨X, 1, none⟩ = some (.int .i32 (to i)) ∧ w.cell? ⟨X, 7, none⟩ = some (.int .u8 (g (pr i) 5))
theorem XAt.go {w w' : World} {X i : Nat} (h : XAt w X i) (hb : Below w.heap.size w w') : XAt w' X i :=
  ⟨Nat.lt_of_lt_of_le h.1 hb.size, (hb.cell (p := ⟨X, 0, none⟩) h.1).trans h.2.1, (hb.cell (p := ⟨X, 1, none⟩) h.1).trans h.2.2.1, (hb.cell (p := ⟨X, 7, none⟩) h.1).trans h.2.2.2⟩
/-- two properties in a row -/
def PAt (w : World) (B : Nat) (p q : List Int) : Prop := B < w.heap.size ∧ ∀ k j, k < 2 → j < 7 → w.cell? ⟨B, k * 7 + j, none⟩ = some (.int .u8 (g (if k = 0 then p else q) j))
theorem PAt.go {w w' : World} {B : Nat} {p q : List Int} (h : PAt w B p q) (hb : Below w.heap.size w w') : PAt w' B p q :=
  ⟨Nat.lt_of_lt_of_le h.1 hb.size, fun k j hk hj => (hb.cell (p := ⟨B, k * 7 + j, none⟩) h.1).trans (h.2 k j hk hj)⟩
theorem fourteen (w : World) (p q : List Int) : ∀ V, w.alloc (.cells #[.int .u8 (g p 0), .int .u8 (g p 1), .int .u8 (g p 2), .int .u8 (g p 3), .int .u8 (g p 4), .int .u8 (g p 5), .int .u8 (g p 6), .int .u8 (g q 0), .int .u8 (g q 1), .int .u8 (g q 2), .int .u8 (g q 3), .int .u8 (g q 4), .int .u8 (g q 5), .int .u8 (g q 6)] 25) = V → PAt V w.heap.size p q ∧ Below w.heap.size w V := by
  rintro V rfl
  refine ⟨⟨by simp, fun k j hk hj => ?_⟩, (Below.refl _ _).alloc (Nat.le_refl _) _⟩
  have hk' : k = 0 ∨ k = 1 := by omega
  have hj' : j = 0 ∨ j = 1 ∨ j = 2 ∨ j = 3 ∨ j = 4 ∨ j = 5 ∨ j = 6 := by omega
  rcases hk' with rfl | rfl <;> rcases hj' with rfl | rfl | rfl | rfl | rfl | rfl | rfl <;> simp
def KRel (B X i : Nat) (p q : List Int) (w : World) (v : Value) (wr : World) : Prop :=
  ∃ k : Nat, k ≤ 2 ∧ v = .int .i64 k ∧ PAt wr B p q ∧ XAt wr X i ∧ BrIs wr ∧ Below w.heap.size w wr

set_option maxRecDepth 100000 in
set_option maxHeartbeats 40000000 in
theorem walk (n r : Int) (w : World) (hn : 0 ≤ n) (hn2 : n ≤ 255) (_hr : -2147483648 ≤ r) (_hr2 : r ≤ 2147483647) (hB : BrIs w) : Calls Tryd.prog 5 #[.int .u8 n, .int .i32 r] w fun e w' => e = .returned (.bool true) ∧ Below w.heap.size w w' := by
  have HB := Lib.hid hB
  clear hB
  obtain ⟨i, hi⟩ : ∃ i : Nat, (i : Int) = n % 166 := ⟨(n % 166).toNat, by omega⟩
  have hi6 : i < 166 := by omega
  have hfb := fr_bd hi6
  have hti : (n % 166).toNat = i := by omega
  have hni : n % 166 = (i : Int) := hi.symm
  clear hi
  go_enter Tryd.func5, Tryd.ntmps5
  go_wp2_with (go_at_call 8; refine (Table_out _).mono ?_; rintro e wr ⟨gt, cap, rfl, hcap, hgt, hT, hb1⟩; obtain ⟨t0, t1, t2, t3, t4, t5, t6, t7, t8⟩ := hT.cells i hi6; have hgl := hT.1; clear hT)
  have HB1 := Lib.hid (HB.out.go hb1)
  clear HB
  obtain ⟨W, hW⟩ : ∃ W, wr.alloc (.cells #[.int .i32 (fr i), .int .i32 (to i), .int .u8 (g (pr i) 0), .int .u8 (g (pr i) 1), .int .u8 (g (pr i) 2), .int .u8 (g (pr i) 3), .int .u8 (g (pr i) 4), .int .u8 (g (pr i) 5), .int .u8 (g (pr i) 6)] 27) = W := ⟨_, rfl⟩
  obtain ⟨x0, x1, x2, x3, x4, x5, x6, x7, x8, hbW, hsW⟩ := nine wr i W hW
  rw [hW]
  clear hW t0 t1 t2 t3 t4 t5 t6 t7 t8 hgl hti hni
  have HRW := Lib.hid (HB1.out.go hbW)
  have hbelW := upB hb1 hbW
  clear HB1 hb1 hbW
  obtain ⟨X, hX⟩ : ∃ X, wr.heap.size = X := ⟨_, rfl⟩
  rw [hX] at x0 x1 x2 x3 x4 x5 x6 x7 x8 hsW ⊢
  clear hX
  go_region_held3 (fun w' => w'.cell? ⟨X, 2, none⟩ = some (.int .u8 (g (pr i) 0)) ∧ w'.cell? ⟨X, 3, none⟩ = some (.int .u8 (g (pr i) 1)) ∧ w'.cell? ⟨X, 4, none⟩ = some (.int .u8 (g (pr i) 2)) ∧ w'.cell? ⟨X, 5, none⟩ = some (.int .u8 (g (pr i) 3)) ∧ w'.cell? ⟨X, 6, none⟩ = some (.int .u8 (g (pr i) 4)) ∧ w'.cell? ⟨X, 7, none⟩ = some (.int .u8 (g (pr i) 5)) ∧ w'.cell? ⟨X, 8, none⟩ = some (.int .u8 (g (pr i) 6)))
    (first | exact ⟨x2, x3, x4, x5, x6, x7, x8⟩ | exact ⟨z2, z3, z4, z5, z6, z7, z8⟩ | (go_keep)) (first
      | (go_at_call 10; refine (Of_any r _).mono ?_; rintro e w2 ⟨rfl, hb2⟩; have hs2 : X < w2.heap.size := Nat.lt_of_lt_of_le hsW hb2.size; have z0 : w2.cell? ⟨X, 0, none⟩ = _ := (hb2.cell (p := ⟨X, 0, none⟩) hsW).trans x0; have z1 : w2.cell? ⟨X, 1, none⟩ = _ := (hb2.cell (p := ⟨X, 1, none⟩) hsW).trans x1; have z2 : w2.cell? ⟨X, 2, none⟩ = _ := (hb2.cell (p := ⟨X, 2, none⟩) hsW).trans x2; have z3 : w2.cell? ⟨X, 3, none⟩ = _ := (hb2.cell (p := ⟨X, 3, none⟩) hsW).trans x3; have z4 : w2.cell? ⟨X, 4, none⟩ = _ := (hb2.cell (p := ⟨X, 4, none⟩) hsW).trans x4; have z5 : w2.cell? ⟨X, 5, none⟩ = _ := (hb2.cell (p := ⟨X, 5, none⟩) hsW).trans x5; have z6 : w2.cell? ⟨X, 6, none⟩ = _ := (hb2.cell (p := ⟨X, 6, none⟩) hsW).trans x6; have z7 : w2.cell? ⟨X, 7, none⟩ = _ := (hb2.cell (p := ⟨X, 7, none⟩) hsW).trans x7; have z8 : w2.cell? ⟨X, 8, none⟩ = _ := (hb2.cell (p := ⟨X, 8, none⟩) hsW).trans x8))
  have hb2' : Below W.heap.size W w2 := ⟨hb2.os, hb2.tape, hb2.output, hb2.size, hb2.block⟩
  have hX2 : XAt w2 X i := ⟨hs2, z0, z1, z7⟩
  have HR2 := Lib.hid (HRW.out.go hb2')
  have hbel2 := upB hbelW hb2'
  clear HRW hbelW hb2' hb2 z0 z1 z2 z3 z4 z5 z6 z7 z8 x0 x1 x2 x3 x4 x5 x6 x7 x8
  obtain ⟨V, hV⟩ : ∃ V, w2.alloc (.cells #[.int .u8 (g (pr i) 0), .int .u8 (g (pr i) 1), .int .u8 (g (pr i) 2), .int .u8 (g (pr i) 3), .int .u8 (g (pr i) 4), .int .u8 (g (pr i) 5), .int .u8 (g (pr i) 6), .int .u8 (g (of r) 0), .int .u8 (g (of r) 1), .int .u8 (g (of r) 2), .int .u8 (g (of r) 3), .int .u8 (g (of r) 4), .int .u8 (g (of r) 5), .int .u8 (g (of r) 6)] 25) = V := ⟨_, rfl⟩
  obtain ⟨hPV, hbV⟩ := fourteen w2 (pr i) (of r) V hV
  rw [hV]
  clear hV
  have HXV := Lib.hid (hX2.go hbV)
  have HRV := Lib.hid (HR2.out.go hbV)
  have HPV := Lib.hid hPV
  have hbelV := upB hbel2 hbV
  clear hX2 HR2 hbel2 hbV hPV hs2 hsW
  obtain ⟨B, hBB⟩ : ∃ B, w2.heap.size = B := ⟨_, rfl⟩
  rw [hBB] at HPV ⊢
  clear hBB
  have HK0 := Lib.hid (kind_row hi6)
  have HK1 := Lib.hid (kind_of r)
  go_wp2
  go_loopw [29] (fun v wr => KRel B X i (pr i) (of r) w v wr) (fun v _ => 2 - (intOf v).toNat)
  case atStart => exact ⟨0, by omega, rfl, HPV.out, HXV.out, HRV.out, hbelV⟩
  case round =>
    clear HPV HXV HRV hbelV
    obtain ⟨k, hk, rfl, hP, hX, hR, hbel⟩ := hrel
    have HX := Lib.hid hX
    have HR := Lib.hid hR
    clear hX hR
    by_cases hlt : k < 2
    · obtain ⟨p, hp⟩ : ∃ p, (if k = 0 then pr i else of r) = p := ⟨_, rfl⟩
      have hKK : KindOK p := by rw [← hp]; split; · exact HK0.out.1
                                · exact HK1.out
      have c0 := hP.2 k 0 hlt (by omega)
      have c1 := hP.2 k 1 hlt (by omega)
      have c2 := hP.2 k 2 hlt (by omega)
      have c3 := hP.2 k 3 hlt (by omega)
      have c4 := hP.2 k 4 hlt (by omega)
      have c5 := hP.2 k 5 hlt (by omega)
      have c6 := hP.2 k 6 hlt (by omega)
      have HP := Lib.hid hP
      have hBl := hP.1
      rw [hp] at c0 c1 c2 c3 c4 c5 c6
      rw [Nat.add_zero] at c0
      clear hp hP
      obtain ⟨hcase, hw2, hj5, hs11, hb22⟩ := hKK
      generalize g p 0 = cat at c0 hcase
      generalize g p 1 = bi at c1 hcase hb22
      generalize g p 2 = jo at c2 hj5
      generalize g p 3 = cc at c3 hcase
      generalize g p 4 = sc at c4 hs11
      generalize g p 5 = di at c5 hcase
      generalize g p 6 = wi at c6 hcase hw2
      have k1 : ∀ (V : World), wr.alloc (.cells #[.int .u8 cat, .int .u8 bi, .int .u8 jo, .int .u8 cc, .int .u8 sc, .int .u8 di, .int .u8 wi] 25) = V → KRel B X i (pr i) (of r) w (.int .i64 (k + 1 : Nat)) V := by
        rintro V rfl
        have hbb : Below wr.heap.size wr (wr.alloc (.cells #[.int .u8 cat, .int .u8 bi, .int .u8 jo, .int .u8 cc, .int .u8 sc, .int .u8 di, .int .u8 wi] 25)) := (Below.refl _ _).alloc (Nat.le_refl _) _
        exact ⟨k + 1, by omega, rfl, HP.out.go hbb, HX.out.go hbb, HR.out.go hbb, upB hbel hbb⟩
      have HK := Lib.hid k1
      clear k1 HP HX HR HK0 HK1
      rcases hcase with ⟨rfl, rfl | rfl, rfl⟩ | ⟨rfl | rfl | rfl, rfl, rfl | rfl | rfl, rfl⟩ | ⟨rfl, rfl, h8, hd⟩ | ⟨rfl, rfl, h8, rfl, rfl⟩ | ⟨hc, rfl, h8, rfl⟩
      all_goals (try (have b8 : (bi == 8) = false := by simpa using h8))
      all_goals (try (have b9 : (di == 0) = false := by simpa using hd))
      all_goals (try (have b10 : (di != 0) = true := by simpa using hd))
      all_goals (try (have q1 : (cat == 1) = false := by rcases hc with rfl | rfl | rfl | rfl | rfl <;> rfl))
      all_goals (try (have q2 : (cat == 2) = false := by rcases hc with rfl | rfl | rfl | rfl | rfl <;> rfl))
      all_goals (try (have q3 : (cat == 3) = false := by rcases hc with rfl | rfl | rfl | rfl | rfl <;> rfl))
      all_goals (try (have q4 : (cat == 4) = false := by rcases hc with rfl | rfl | rfl | rfl | rfl <;> rfl))
      all_goals (try (have q5 : (cat == 5) = false := by rcases hc with rfl | rfl | rfl | rfl | rfl <;> rfl))
      all_goals (try (have q9 : (cat == 9) = false := by rcases hc with rfl | rfl | rfl | rfl | rfl <;> rfl))
      rotate_left 2
      iterate 12
        · go_wp2
          go_roundw
          case rel => exact HK.out _ rfl
          case measure => simp [intOf]; omega
      iterate 2
        · by_cases hcc : 0 < cc
          all_goals
            go_wp2
            go_roundw
            case rel => exact HK.out _ rfl
            case measure => simp [intOf]; omega
    · obtain rfl : k = 2 := by omega
      obtain ⟨xl, y0, y1, y7⟩ := HX.out
      have hdd := HK0.out.2
      have e1 : IntKind.i32.wrap (to i - fr i) = to i - fr i := i32_in _ (by omega) (by omega)
      rcases hdd with hd | hd
      · rw [hd] at y7
        go_wp2_with (go_at_call 14; refine (awake_any _ HR.out).mono ?_; rintro e w3 ⟨rfl, hb3⟩)
        go_ret
        exact ⟨rfl, upB hbel hb3⟩
      · by_cases h5 : g (pr i) 5 = 0
        · rw [h5] at y7
          go_wp2_with (go_at_call 14; refine (awake_any _ HR.out).mono ?_; rintro e w3 ⟨rfl, hb3⟩)
          go_ret
          exact ⟨rfl, upB hbel hb3⟩
        · have d5 : (g (pr i) 5 == 0) = false := by simpa using h5
          have d9 : (to i - fr i == 9) = true := by simpa using hd
          clear hd
          go_wp2_with (go_at_call 14; refine (awake_any _ HR.out).mono ?_; rintro e w3 ⟨rfl, hb3⟩)
          go_ret
          exact ⟨rfl, upB hbel hb3⟩

/-! From the walk to the given statement. -/
set_option linter.unusedVariables false
theorem own : ownKnob Tryd.prog.godebug = none := by kernel_rfl
set_option maxRecDepth 100000 in
theorem lifted (os : Os) (started : os.Started) (H : Type) (enc : TypeId × Value → H) :
    ReturnsInHanded {} Tryd.checked os 5 .any (fun w args => (Rows.ucdKindsSpec.pre enc Tryd.prog Tryd.f5 [] false w args ∧ laidMetH Tryd.prog Rows.ucdKindsRow.laid w) ∧ sizedMet enc Tryd.prog Tryd.f5 (OpenSpec.ofChange Rows.ucdKindsSpec) false w args)
      (Rows.ucdKindsSpec.post enc Tryd.prog Tryd.f5 false true false false) := by
  refine returnsInHanded_of_change_and (C := Tryd.checked) (X := fun w _ => laidMetH Tryd.prog Rows.ucdKindsRow.laid w) (fun _ _ _ hh h => h.of_heap hh) own started (by kernel_rfl) Tryd.func5
    (ChangeSpec.witness_shaped (enc := enc) (C := Tryd.checked) (os := os) (X := fun w _ => laidMetH Tryd.prog Rows.ucdKindsRow.laid w) false (World.laidAll Tryd.prog os Rows.ucdKindsRow.laid) #[.int .u8 0, .int .i32 0] 8 (World.laidAll_os _ _ _)
      (World.shaped_of_ZipB (by kernel_rfl) (by kernel_rfl)) (by kernel_rfl) (by kernel_rfl) (by kernel_rfl)
      (by rw [MakeChecks.laidMetH_plain _ _ _ (by kernel_rfl)]; exact laidMet_laidAll _ (by kernel_rfl) (by kernel_rfl))) ?_
  intro W base args ds gs before hval0 hW _ _ hL _
  have hval : ∀ (j : Nat) t v, Tryd.f5.params[j]? = some t → args[j]? = some v → Value.okWide Tryd.prog W .any base t v := hval0
  have hW' := hW
  obtain ⟨p, q, hA0, hV, rfl, _, _⟩ := hW
  have hA : DataW.TrodAll enc Tryd.prog W 0 (fun _ => true) true Tryd.f5.params.toList args.toList ds p := hA0
  rw [Tryd.params5] at hA hval
  obtain ⟨v0, vs0, d0, ds0, p0, q0, hargs, rfl, rfl, h0, r0⟩ := trodAll_cons hA
  obtain ⟨v1, vs1, d1, ds1, p1, q1, rfl, rfl, rfl, h1, r1⟩ := trodAll_cons r0
  obtain ⟨rfl, rfl, rfl⟩ := trodAll_nil r1
  obtain rfl : args = #[v0, v1] := by cases args; simp_all
  obtain ⟨rfl, rfl⟩ := trodVars_none hV
  obtain ⟨a0, rfl, rfl, rfl, w0⟩ := open_int Tryd.underlying5 (hval 0 5 v0 rfl rfl) h0
  have b0 : 0 ≤ a0 ∧ a0 ≤ 255 := by simpa [Lit.wf, IntKind.min, IntKind.max, IntKind.signed, IntKind.bits] using w0
  obtain ⟨a1, rfl, rfl, rfl, w1⟩ := open_int Tryd.underlying21 (hval 1 21 v1 rfl rfl) h1
  have b1 : -2147483648 ≤ a1 ∧ a1 ≤ 2147483647 := by simpa [Lit.wf, IntKind.min, IntKind.max, IntKind.signed, IntKind.bits] using w1
  clear hA0 hval0
  rw [MakeChecks.laidMetH_plain _ _ _ (by kernel_rfl)] at hL
  have hBr : BrIs W := brIs_of_reads (Lib.laidMet.reads hL (.tail _ (.tail _ (.tail _ (.tail _ (.tail _ (.tail _ (.head _))))))))
  refine (walk a0 a1 W b0.1 b0.2 b1.1 b1.2 hBr).mono fun e W' ⟨he, bel⟩ => ?_
  subst he
  exact ⟨_, rfl, _, _, _, [], _, [], hW', trodAll_mk1 (shut_bool Tryd.underlying4 _), (trodAll_cons_mk (shut_int Tryd.underlying5 w0) (trodAll_cons_mk (shut_int Tryd.underlying21 w1) trodAll_mk0)), rfl, bel.frame _, fun h => by cases h⟩

theorem row_holds : Rows.UcdKindsSaid :=
  OpenClaim.holds_of_wide 5 Tryd.f5 rfl rfl rfl rfl rfl rfl rfl ⟨rfl, rfl, rfl, rfl, rfl⟩ rfl rfl rfl rfl rfl (by kernel_rfl) Tryd.func5 (by kernel_rfl)
    (of_decide_eq_true (by kernel_rfl)) (by unfold Func.isWrapper; first | (rw [if_pos (by decide +kernel)]; kernel_rfl) | (rw [if_neg (by decide +kernel)]; exact ⟨rfl, rfl⟩))
    (fun os started H enc _ => lifted os started H enc)

theorem proved : Rows.UcdKindsCardSaid :=
  Claim7.holds_tied_plain_at .later [] [.data, .data, .data, .data, .sentinel, .sentinel, .data, .pinned] true (true, "bd988b9575ebbf85d13ef5fdc5027332695ade4174a37e91737069d49f722970") true
    row_holds (fun _ h => by cases h) (by kernel_rfl) (fun _ h => by cases h) ucdKinds_row_tie rfl ⟨rfl, rfl⟩ (by kernel_rfl) rfl
    (fun f fn hf hfn => by
      obtain rfl : f = 5 := Option.some.inj ((show Tryd.prog.funcNamed "fascia/fascialaw02.UcdKinds" = some 5 by kernel_rfl).symm.trans hf) |>.symm
      obtain rfl : fn = Tryd.f5 := (Option.some.inj (Tryd.func5.symm.trans hfn)).symm
      exact ⟨by kernel_rfl, fun j t ht => by
        rw [Tryd.params5] at ht
        have hm : t ∈ [5, 21] := by simpa using Array.mem_of_getElem? ht
        have hall : ([5, 21].all fun u => !Tryd.prog.wantsStandIn u) = true := by kernel_rfl
        exact (show Tryd.prog.wantsStandIn t = false by simpa using List.all_eq_true.1 hall t hm)⟩)
    (by kernel_rfl)
end Go.Proofs.YtioagoehmdppiaaDoor.ucdKinds
