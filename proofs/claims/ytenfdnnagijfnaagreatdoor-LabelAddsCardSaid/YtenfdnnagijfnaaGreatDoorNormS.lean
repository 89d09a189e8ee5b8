/-
  norm: compose.
-/
import Derived.Test.YtenfdnnagijfnaaGreatDoorNormR
import Derived.Deep.RegionHeld3
import Derived.Deep.DeepCutAuto
namespace Go.Proofs.YtenfdnnagijfnaaGreatDoor
open Go.RowKit Norm

def Made1 (w : World) (l : List Int) (e : Ending) (w' : World) : Prop :=
  ∃ g c, e = .returned (.slice (some ⟨g, 0, none⟩) l.length c) ∧ w'.ownsRow w.heap.size 21 1 (.slice (some ⟨g, 0, none⟩) l.length c) l.length (cl .i32 l) ∧ Below w.heap.size w w'
theorem boxC {w : World} {X : Nat} {a b : Value} {t : TypeId} (h : w.heap[X]? = some (.cells #[a, b] t (0, 0))) :
    w.cell? ⟨X, 0, none⟩ = some a ∧ w.cell? ⟨X, 1, none⟩ = some b ∧ w.frozen? ⟨X, 0, none⟩ = false ∧ w.frozen? ⟨X, 1, none⟩ = false := by
  simp [World.cell?, World.frozen?, h]
theorem box3c {w : World} {X : Nat} {a b : Value} {t : TypeId} (h : w.heap[X]? = some (.cells #[a, b] t (0, 0))) :
    w.cell? ⟨X, 0, none⟩ = some a ∧ w.cell? ⟨X, 1, none⟩ = some b ∧ w.heap[X]? = some (.cells #[a, b] t (0, 0)) := ⟨(boxC h).1, (boxC h).2.1, h⟩
theorem own_cell {w : World} {base g c n : Nat} {out : List Int} (h : w.ownsRow base 21 1 (.slice (some ⟨g, 0, none⟩) n c) n (cl .i32 out)) {q : Nat} (hq : q < n) {y : Int} (hy : out[q]? = some y) : w.cell? ⟨g, q, none⟩ = some (.int .i32 y) := by
  rw [World.ownsRow.cellAt h q (by omega), List.getElem?_map, hy]
  rfl
theorem own_frozen {w : World} {base g c n : Nat} {xs : List Value} {e : TypeId} {size : Nat} (h : w.ownsRow base e size (.slice (some ⟨g, 0, none⟩) n c) n xs) (i : Nat) : w.frozen? ⟨g, i, none⟩ = false := by
  rcases h.2 with ⟨h0, _⟩ | ⟨g', cap', cur, hv, _, hb, _⟩
  · cases h0
  cases hv
  simp [World.frozen?, hb]
theorem gb_undrew {w w' : World} {r : Option Nat} (h : w.drew.grownBy w' r) : w.grownBy w' r := ⟨h.os, h.tape, h.output, h.size, h.block⟩
theorem row_c2 {w : World} {b o : Nat} {l : List C} {k : Nat} {x : C} (hcc : ∀ k, k < (c2 l).length → w.cell? ⟨b, o + k, none⟩ = (c2 l)[k]?) (hx : l[k]? = some x) :
    w.cell? ⟨b, o + k * 2, none⟩ = some (.int .i32 x.1) ∧ w.cell? ⟨b, o + k * 2 + 1, none⟩ = some (.int .u8 x.2) := by
  have hk : k < l.length := (List.getElem?_eq_some_iff.1 hx).1
  have hv : l[k] = x := (List.getElem?_eq_some_iff.1 hx).2
  have h0 := hcc (k * 2) (by rw [c2_len]; omega)
  have h1 := hcc (k * 2 + 1) (by rw [c2_len]; omega)
  rw [c2_get _ _ (by omega)] at h0 h1
  rw [show k * 2 / 2 = k from by omega, show k * 2 % 2 = 0 from by omega, getElem!_pos l k hk, hv] at h0
  rw [show (k * 2 + 1) / 2 = k from by omega, show (k * 2 + 1) % 2 = 1 from by omega, getElem!_pos l k hk, hv] at h1
  exact ⟨h0, h1⟩

set_option maxRecDepth 100000 in
set_option maxHeartbeats 4000000 in
theorem compose_any (l : List C) (A : Option Addr) (cap : Nat) (w : World) (hl : l.length ≤ 20000) (hC : W2 l) (hr : Row w w.heap.size A (c2 l)) :
    Calls Tryz.prog 40 #[.slice A l.length cap] w (Made1 w (comp l)) := by
  obtain ⟨i0, hi, hz0, hz1, hz2⟩ := info_split info_int32
  have HZ := Lib.hid hz2
  have HC := Lib.hid compositions_any
  have HJ := Lib.hid joinP_any
  go_enter Tryz.func40, Tryz.ntmps40
  go_wp2_with (first | (go_at_call 34; refine (HC.out _).mono ?_; rintro e w1 ⟨rfl, hm1, hb1⟩) | (at_make; refine wpList_make_own _ rfl _ _ 22 rfl w.heap.size 21 i0 _ 1 Tryz.underlying22 hi hz0 hz1 .i64 .i64 _ l.length rfl rfl rfl (by rw [HZ.out]; omega) (by unfold maxLen; omega) hb1.size ?_; intro w2 hown2 hgrow2) | fail)
  have hB2 : Below w.heap.size w w2 := hb1.grown hgrow2 hb1.size (fun j e => by cases e)
  have hM2 : PMap w2 w.heap.size 81 := hm1.kept hgrow2 (by simp)
  have hlt2 : w.heap.size < w1.heap.size := hm1.lt
  clear HC hm1 hb1
  go_loopg [4, 5, 6, 17] l.length (fun m s4 s5 s6 s17 wr => ∃ k g c : Nat, s17 = .int .i64 (k : Int) ∧ m = l.length - k ∧ k ≤ l.length ∧ s4 = .slice (some ⟨g, 0, none⟩) (stAt l k).out.length c ∧ s5 = .int .i64 (stAt l k).st ∧ s6 = .int .u8 (stAt l k).last ∧
    wr.ownsRow w.heap.size 21 1 (.slice (some ⟨g, 0, none⟩) (stAt l k).out.length c) (stAt l k).out.length (cl .i32 (stAt l k).out) ∧ Below w.heap.size w wr ∧ PMap wr w.heap.size 81 ∧ g ≠ w.heap.size)
  case atStart => exact ⟨0, w1.heap.size, l.length, rfl, rfl, Nat.zero_le _, rfl, rfl, rfl, hown2, hB2, hM2, by omega⟩
  case round =>
    obtain ⟨k, g, c, rfl, rfl, hk, rfl, rfl, rfl, hO, hB, hM, hgne⟩ := hrel
    by_cases hlt : k < l.length
    · have hltz : (k : Int) < (l.length : Int) := by omega
      obtain ⟨x, hx⟩ : ∃ x, l[k] = x := ⟨_, rfl⟩
      have hxw := hC _ (List.getElem_mem hlt)
      have HST := Lib.hid (stAt_succ hlt)
      have hinv := stAt_inv hC k hk
      rw [hx] at hxw HST
      have hx' : l[k]? = some x := by rw [List.getElem?_eq_getElem hlt, hx]
      obtain ⟨b0, o0, rfl, hb0, hcc⟩ := (hr.below hB).at_ (by rw [c2_len]; omega)
      obtain ⟨c0, c1⟩ := row_c2 hcc hx'
      obtain ⟨s, hs⟩ : ∃ s, stAt l k = s := ⟨_, rfl⟩
      rw [hs] at HST hinv hO ⊢
      obtain ⟨out, st, last⟩ := s
      obtain ⟨x1, x2⟩ := x
      have HINV := Lib.hid hinv
      obtain ⟨i1, i2, i3⟩ := hinv
      dsimp only at i1 i2 i3 hO c0 c1 hxw ⊢
      clear hcc hx hx' hs hC
      go_upto_region 8 with fail
      have hg4 := alloc_heap_new' wr (.cells #[.int .i32 x1, .int .u8 x2] 60)
      have hO4 := hO.alloc (.cells #[.int .i32 x1, .int .u8 x2] 60)
      have hB4 : Below w.heap.size w (wr.alloc (.cells #[.int .i32 x1, .int .u8 x2] 60)) := hB.alloc hB.size _
      have hM4 := hM.below ((Below.refl _ wr).alloc (Nat.le_refl _) (.cells #[.int .i32 x1, .int .u8 x2] 60))
      have hgX : g ≠ wr.heap.size := by have := (hO.lt g rfl).2; omega
      have hXw : w.heap.size ≠ wr.heap.size := by have := hM.lt; omega
      have hgb := (hO.lt g rfl).1
      generalize wr.alloc (.cells #[.int .i32 x1, .int .u8 x2] 60) = W at hg4 hO4 hB4 hM4 ⊢
      generalize wr.heap.size = X at hg4 hgX hXw ⊢
      obtain ⟨d0, d1, f0, f1⟩ := boxC hg4
      have hXl : X < W.heap.size := (Array.getElem?_eq_some_iff.1 hg4).1
      clear hO hB hM c0 c1 hb0
      by_cases hmay : 0 ≤ st ∧ (st = (out.length : Int) - 1 ∨ last < x2)
      · obtain ⟨q, rfl⟩ : ∃ q : Nat, st = (q : Int) := ⟨st.toNat, by omega⟩
        have hq : q < out.length := by omega
        have hgl : g < W.heap.size := (hO4.lt g rfl).2
        go_cut [35] (fun s35 wx => s35 = .bool true ∧ wx = W)
        case first =>
          have hst : (0 : Int) ≤ (q : Int) := by omega
          by_cases ha : (out.length : Int) - 1 = (q : Int)
          · go_wp2_with fail
            go_meet
            exact ⟨rfl, rfl⟩
          · have hb : last < x2 := by omega
            have ha' : ¬ (q : Int) = (out.length : Int) - 1 := fun h => ha h.symm
            go_wp2_with fail
            go_meet
            exact ⟨rfl, rfl⟩
        case rest =>
          obtain ⟨rfl, hwc⟩ := hcut
          rw [hwc]
          clear hwc
          have HMAY0 := Lib.hid hmay
          clear hmay
          have hqz : (q : Int) < (out.length : Int) := by omega
          have HMAY : Hid (St.may ⟨out, (q : Int), last⟩ (x1, x2)) := Lib.hid (HMAY0.out)
          have hoq := own_cell hO4 (by simpa using hq) (List.getElem?_eq_getElem hq)
          have hof := own_frozen hO4 q
          have how := i3 _ (List.getElem_mem hq)
          have HGD : Hid (out.getD q 0 = out[q]) := Lib.hid (by rw [List.getD_eq_getElem?_getD, List.getElem?_eq_getElem hq]; rfl)
          obtain ⟨y, hy⟩ : ∃ y, out[q] = y := ⟨_, rfl⟩
          rw [hy] at hoq how HGD
          clear hy
          have HJJ : Hid (∀ (V : World), PMap V w.heap.size 81 → Calls Tryz.prog 33 #[.map (some w.heap.size), .agg #[.int .i32 y, .int .i32 x1]] V (Tells (.tuple #[.int .i32 ((jn y x1).getD 0), .bool (jn y x1).isSome]) V)) := Lib.hid (fun V hV => joinP_any _ _ _ V hV (of_wf32 how) (of_wf32 hxw))
          cases hj : jn y x1 with
          | some r =>
            rw [hj] at HJJ
            have HSE : Hid (stAt l (k + 1) = ⟨out.set q r, (q : Int), last⟩) := Lib.hid (by rw [HST.out, step_some HMAY.out (by rw [← hj, ← HGD.out]; rfl)]; rfl)
            clear hj
            go_upto_region 9 with fail
            go_region_held3 (fun w' => w'.cell? ⟨X, 0, none⟩ = some (.int .i32 x1) ∧ w'.cell? ⟨g, q, none⟩ = some (.int .i32 y)) (first | exact ⟨d0, hoq⟩ | exact ⟨(hbJ.cell (p := ⟨X, 0, none⟩) hXl).trans d0, (hbJ.cell (p := ⟨g, q, none⟩) hgl).trans hoq⟩) (first
              | (go_at_call 33; refine (HJJ.out _ (by first | exact hM4 | exact hM4)).mono ?_; rintro e wJ ⟨rfl, hbJ'⟩; have hbJ : Below W.heap.size W wJ := (by first | exact hbJ' | exact below_undrew hbJ'))
              | fail)
            all_goals (
              have hOJ := own_below hO4 hbJ
              have hMJ := hM4.below hbJ
              have hBJ := hB4.trans (hbJ.mono hB4.size)
              have k0 : wJ.cell? ⟨g, q, none⟩ = some (.int .i32 y) := (hbJ.cell (p := ⟨g, q, none⟩) hgl).trans hoq
              have k1 := own_frozen hOJ q
              go_wp2_with fail
              go_roundg (l.length - (k + 1))
              case measure => omega
              case rel =>
                have hs := World.ownsRow.stored hOJ q (.int .i32 r)
                refine ⟨k + 1, g, c, by go_num, rfl, by omega, by rw [HSE.out, List.length_set], by rw [HSE.out], by rw [HSE.out], ?_, hBJ.grown hs.2 hBJ.size (fun k e => by cases e; exact hgb), hMJ.kept hs.2 (by simpa using Ne.symm hgne), hgne⟩
                rw [HSE.out, List.length_set]
                have e := hs.1
                rw [show (cl .i32 out).set q (.int .i32 r) = cl .i32 (out.set q r) from by simp [cl, List.map_set]] at e
                exact e)
          | none =>
            rw [hj] at HJJ
            have HSTQ : Hid (stAt l (k + 1) = St.push ⟨out, (q : Int), last⟩ (x1, x2)) := Lib.hid (by rw [HST.out, step_none (by rw [← hj, ← HGD.out]; rfl)])
            clear hj
            go_upto_region 9 with fail
            go_region_held3 (fun w' => w'.cell? ⟨X, 0, none⟩ = some (.int .i32 x1) ∧ w'.cell? ⟨g, q, none⟩ = some (.int .i32 y)) (first | exact ⟨d0, hoq⟩ | exact ⟨(hbJ.cell (p := ⟨X, 0, none⟩) hXl).trans d0, (hbJ.cell (p := ⟨g, q, none⟩) hgl).trans hoq⟩) (first
              | (go_at_call 33; refine (HJJ.out _ (by first | exact hM4 | exact hM4)).mono ?_; rintro e wJ ⟨rfl, hbJ'⟩; have hbJ : Below W.heap.size W wJ := (by first | exact hbJ' | exact below_undrew hbJ'))
              | fail)
            have hOJ := own_below hO4 hbJ
            have hMJ := hM4.below hbJ
            have hBJ := hB4.trans (hbJ.mono hB4.size)
            have hgJ := (hbJ.block X hXl).trans hg4
            obtain ⟨d0', d1', f0', f1'⟩ := boxC hgJ
            clear hoq hof
            have HSE : Hid (stAt l (k + 1) = St.push ⟨out, (q : Int), last⟩ (x1, x2)) := Lib.hid (HSTQ.out)
            by_cases h0 : x2 = 0
            · have HIS : Hid (isSt (x1, x2) = true) := Lib.hid (isSt_true.2 h0)
              have HST5 : Hid ((stAt l (k + 1)).st = ((out.length : Nat) : Int)) := Lib.hid (by rw [HSE.out]; simp [St.push, h0])
              clear h0
              go_upto_region 14 with (first | (go_at_call 60; refine (starter_any wJ wJ (x1, x2) (Below.refl _ _)).mono ?_; rw [HIS.out]; rintro e w5 ⟨rfl, hb5⟩) | fail)
              have hO5 := own_below hOJ hb5
              have hM5 := (hMJ).below hb5
              have hB5 := hBJ.trans (hb5.mono hBJ.size)
              have hg5 := (hb5.block X (Array.getElem?_eq_some_iff.1 hgJ).1).trans hgJ
              have hX5 : X < w5.heap.size := (Array.getElem?_eq_some_iff.1 hg5).1
              clear hb5
              obtain ⟨q0, q1, hg5'⟩ := box3c hg5
              go_region_held3 (fun w' => w'.cell? ⟨X, 0, none⟩ = some (.int .i32 x1) ∧ w'.cell? ⟨X, 1, none⟩ = some (.int .u8 x2) ∧ w'.heap[X]? = some (.cells #[.int .i32 x1, .int .u8 x2] 60 (0, 0))) (first | exact box3c hg5 | exact box3c (alloc_old _ hg5) | exact box3c hx6) (first
                | (refine step_append_at _ ?_ (.tmp 57) (.tmp 60) 22 ?_ w.heap.size 21 i0 (.int .i32 0) 1 4 Tryz.underlying22 hi hz0 hz1 hz2 rfl (Nat.zero_lt_succ 0) g out.length c (cl .i32 out) ?_ ?_ ⟨w5.heap.size, 0, none⟩ 1 1 [.int .i32 x1] ?_ rfl ?_ (by simp [Value.oneCell']) (by omega) (by unfold maxLen; omega) (by omega) ?_ ?_; (rfl); (rfl); (rfl); (exact hO5.alloc _); (rfl); (exact news_at rfl); (exact (hB5.alloc hB5.size _).size); intro g6 c6 w6 hO6 hg6' hor6'; have hg6 : (w5.alloc (.cells #[.int .i32 x1] 21)).grownBy w6 (some g) := (by first | exact hg6' | exact gb_undrew hg6'); have hor6 : g6 = g ∨ g6 = (w5.alloc (.cells #[.int .i32 x1] 21)).heap.size := hor6'; have hx6 : w6.heap[X]? = some (.cells #[.int .i32 x1, .int .u8 x2] 60 (0, 0)) := (hg6.block X (Nat.lt_of_lt_of_le hX5 (le_alloc w5 _)) (by simpa using Ne.symm hgX)).trans (alloc_old _ hg5))
                | fail)
              all_goals (
                go_wp2_with fail
                go_roundg (l.length - (k + 1))
                case measure => omega
                case rel =>
                  have hB6 : Below w.heap.size w w6 := (hB5.alloc hB5.size (.cells #[.int .i32 x1] 21)).grown hg6 (hB5.alloc hB5.size _).size (fun k e => by cases e; exact hgb)
                  have hM6 := (hM5.below ((Below.refl _ w5).alloc (Nat.le_refl _) (.cells #[.int .i32 x1] 21))).kept hg6 (by simpa using Ne.symm hgne)
                  have e5 : (stAt l (k + 1)).out = out ++ [x1] := by rw [HSE.out]; rfl
                  have e6 : (stAt l (k + 1)).last = x2 := by rw [HSE.out]; rfl
                  refine ⟨k + 1, g6, c6, by go_num, rfl, by omega, by rw [e5, List.length_append]; rfl, by rw [HST5.out], by rw [e6], ?_, hB6, hM6, ?_⟩
                  · rw [e5, List.length_append, show cl .i32 (out ++ [x1]) = cl .i32 out ++ [.int .i32 x1] from by simp [cl]]
                    exact hO6
                  · rcases hor6 with rfl | rfl
                    · exact hgne
                    · have := hM5.lt
                      have := le_alloc w5 (.cells #[.int .i32 x1] 21)
                      omega)
            · have HIS : Hid (isSt (x1, x2) = false) := Lib.hid (isSt_false.2 h0)
              have HST5 : Hid ((stAt l (k + 1)).st = (q : Int)) := Lib.hid (by rw [HSE.out]; simp [St.push, h0])
              clear h0
              go_upto_region 14 with (first | (go_at_call 60; refine (starter_any wJ wJ (x1, x2) (Below.refl _ _)).mono ?_; rw [HIS.out]; rintro e w5 ⟨rfl, hb5⟩) | fail)
              have hO5 := own_below hOJ hb5
              have hM5 := (hMJ).below hb5
              have hB5 := hBJ.trans (hb5.mono hBJ.size)
              have hg5 := (hb5.block X (Array.getElem?_eq_some_iff.1 hgJ).1).trans hgJ
              have hX5 : X < w5.heap.size := (Array.getElem?_eq_some_iff.1 hg5).1
              clear hb5
              obtain ⟨q0, q1, hg5'⟩ := box3c hg5
              go_region_held3 (fun w' => w'.cell? ⟨X, 0, none⟩ = some (.int .i32 x1) ∧ w'.cell? ⟨X, 1, none⟩ = some (.int .u8 x2) ∧ w'.heap[X]? = some (.cells #[.int .i32 x1, .int .u8 x2] 60 (0, 0))) (first | exact box3c hg5 | exact box3c (alloc_old _ hg5) | exact box3c hx6) (first
                | (refine step_append_at _ ?_ (.tmp 57) (.tmp 60) 22 ?_ w.heap.size 21 i0 (.int .i32 0) 1 4 Tryz.underlying22 hi hz0 hz1 hz2 rfl (Nat.zero_lt_succ 0) g out.length c (cl .i32 out) ?_ ?_ ⟨w5.heap.size, 0, none⟩ 1 1 [.int .i32 x1] ?_ rfl ?_ (by simp [Value.oneCell']) (by omega) (by unfold maxLen; omega) (by omega) ?_ ?_; (rfl); (rfl); (rfl); (exact hO5.alloc _); (rfl); (exact news_at rfl); (exact (hB5.alloc hB5.size _).size); intro g6 c6 w6 hO6 hg6' hor6'; have hg6 : (w5.alloc (.cells #[.int .i32 x1] 21)).grownBy w6 (some g) := (by first | exact hg6' | exact gb_undrew hg6'); have hor6 : g6 = g ∨ g6 = (w5.alloc (.cells #[.int .i32 x1] 21)).heap.size := hor6'; have hx6 : w6.heap[X]? = some (.cells #[.int .i32 x1, .int .u8 x2] 60 (0, 0)) := (hg6.block X (Nat.lt_of_lt_of_le hX5 (le_alloc w5 _)) (by simpa using Ne.symm hgX)).trans (alloc_old _ hg5))
                | fail)
              all_goals (
                go_wp2_with fail
                go_roundg (l.length - (k + 1))
                case measure => omega
                case rel =>
                  have hB6 : Below w.heap.size w w6 := (hB5.alloc hB5.size (.cells #[.int .i32 x1] 21)).grown hg6 (hB5.alloc hB5.size _).size (fun k e => by cases e; exact hgb)
                  have hM6 := (hM5.below ((Below.refl _ w5).alloc (Nat.le_refl _) (.cells #[.int .i32 x1] 21))).kept hg6 (by simpa using Ne.symm hgne)
                  have e5 : (stAt l (k + 1)).out = out ++ [x1] := by rw [HSE.out]; rfl
                  have e6 : (stAt l (k + 1)).last = x2 := by rw [HSE.out]; rfl
                  refine ⟨k + 1, g6, c6, by go_num, rfl, by omega, by rw [e5, List.length_append]; rfl, by rw [HST5.out], by rw [e6], ?_, hB6, hM6, ?_⟩
                  · rw [e5, List.length_append, show cl .i32 (out ++ [x1]) = cl .i32 out ++ [.int .i32 x1] from by simp [cl]]
                    exact hO6
                  · rcases hor6 with rfl | rfl
                    · exact hgne
                    · have := hM5.lt
                      have := le_alloc w5 (.cells #[.int .i32 x1] 21)
                      omega)
      · go_cut [35] (fun s35 wx => s35 = .bool false ∧ wx = W)
        case first =>
          by_cases hst : 0 ≤ st
          · have ha : ¬ st = (out.length : Int) - 1 := by omega
            have hb : ¬ last < x2 := by omega
            go_wp2_with fail
            go_meet
            exact ⟨by first | rfl | exact congrArg Value.bool (by simpa using ha), rfl⟩
          · go_wp2_with fail
            go_meet
            exact ⟨rfl, rfl⟩
        case rest =>
          obtain ⟨rfl, hwc⟩ := hcut
          rw [hwc]
          clear hwc
          have HMAY0 := Lib.hid hmay
          clear hmay
          have HSE : Hid (stAt l (k + 1) = St.push ⟨out, st, last⟩ (x1, x2)) := Lib.hid (by rw [HST.out, step_no]; exact HMAY0.out)
          by_cases h0 : x2 = 0
          · have HIS : Hid (isSt (x1, x2) = true) := Lib.hid (isSt_true.2 h0)
            have HST5 : Hid ((stAt l (k + 1)).st = ((out.length : Nat) : Int)) := Lib.hid (by rw [HSE.out]; simp [St.push, h0])
            clear h0
            go_upto_region 14 with (first | (go_at_call 60; refine (starter_any W W (x1, x2) (Below.refl _ _)).mono ?_; rw [HIS.out]; rintro e w5 ⟨rfl, hb5⟩) | fail)
            have hO5 := own_below hO4 hb5
            have hM5 := (hM4).below hb5
            have hB5 := hB4.trans (hb5.mono hB4.size)
            have hg5 := (hb5.block X (Array.getElem?_eq_some_iff.1 hg4).1).trans hg4
            have hX5 : X < w5.heap.size := (Array.getElem?_eq_some_iff.1 hg5).1
            clear hb5
            obtain ⟨q0, q1, hg5'⟩ := box3c hg5
            go_region_held3 (fun w' => w'.cell? ⟨X, 0, none⟩ = some (.int .i32 x1) ∧ w'.cell? ⟨X, 1, none⟩ = some (.int .u8 x2) ∧ w'.heap[X]? = some (.cells #[.int .i32 x1, .int .u8 x2] 60 (0, 0))) (first | exact box3c hg5 | exact box3c (alloc_old _ hg5) | exact box3c hx6) (first
              | (refine step_append_at _ ?_ (.tmp 57) (.tmp 60) 22 ?_ w.heap.size 21 i0 (.int .i32 0) 1 4 Tryz.underlying22 hi hz0 hz1 hz2 rfl (Nat.zero_lt_succ 0) g out.length c (cl .i32 out) ?_ ?_ ⟨w5.heap.size, 0, none⟩ 1 1 [.int .i32 x1] ?_ rfl ?_ (by simp [Value.oneCell']) (by omega) (by unfold maxLen; omega) (by omega) ?_ ?_; (rfl); (rfl); (rfl); (exact hO5.alloc _); (rfl); (exact news_at rfl); (exact (hB5.alloc hB5.size _).size); intro g6 c6 w6 hO6 hg6' hor6'; have hg6 : (w5.alloc (.cells #[.int .i32 x1] 21)).grownBy w6 (some g) := (by first | exact hg6' | exact gb_undrew hg6'); have hor6 : g6 = g ∨ g6 = (w5.alloc (.cells #[.int .i32 x1] 21)).heap.size := hor6'; have hx6 : w6.heap[X]? = some (.cells #[.int .i32 x1, .int .u8 x2] 60 (0, 0)) := (hg6.block X (Nat.lt_of_lt_of_le hX5 (le_alloc w5 _)) (by simpa using Ne.symm hgX)).trans (alloc_old _ hg5))
              | fail)
            all_goals (
              go_wp2_with fail
              go_roundg (l.length - (k + 1))
              case measure => omega
              case rel =>
                have hB6 : Below w.heap.size w w6 := (hB5.alloc hB5.size (.cells #[.int .i32 x1] 21)).grown hg6 (hB5.alloc hB5.size _).size (fun k e => by cases e; exact hgb)
                have hM6 := (hM5.below ((Below.refl _ w5).alloc (Nat.le_refl _) (.cells #[.int .i32 x1] 21))).kept hg6 (by simpa using Ne.symm hgne)
                have e5 : (stAt l (k + 1)).out = out ++ [x1] := by rw [HSE.out]; rfl
                have e6 : (stAt l (k + 1)).last = x2 := by rw [HSE.out]; rfl
                refine ⟨k + 1, g6, c6, by go_num, rfl, by omega, by rw [e5, List.length_append]; rfl, by rw [HST5.out], by rw [e6], ?_, hB6, hM6, ?_⟩
                · rw [e5, List.length_append, show cl .i32 (out ++ [x1]) = cl .i32 out ++ [.int .i32 x1] from by simp [cl]]
                  exact hO6
                · rcases hor6 with rfl | rfl
                  · exact hgne
                  · have := hM5.lt
                    have := le_alloc w5 (.cells #[.int .i32 x1] 21)
                    omega)
          · have HIS : Hid (isSt (x1, x2) = false) := Lib.hid (isSt_false.2 h0)
            have HST5 : Hid ((stAt l (k + 1)).st = st) := Lib.hid (by rw [HSE.out]; simp [St.push, h0])
            clear h0
            go_upto_region 14 with (first | (go_at_call 60; refine (starter_any W W (x1, x2) (Below.refl _ _)).mono ?_; rw [HIS.out]; rintro e w5 ⟨rfl, hb5⟩) | fail)
            have hO5 := own_below hO4 hb5
            have hM5 := (hM4).below hb5
            have hB5 := hB4.trans (hb5.mono hB4.size)
            have hg5 := (hb5.block X (Array.getElem?_eq_some_iff.1 hg4).1).trans hg4
            have hX5 : X < w5.heap.size := (Array.getElem?_eq_some_iff.1 hg5).1
            clear hb5
            obtain ⟨q0, q1, hg5'⟩ := box3c hg5
            go_region_held3 (fun w' => w'.cell? ⟨X, 0, none⟩ = some (.int .i32 x1) ∧ w'.cell? ⟨X, 1, none⟩ = some (.int .u8 x2) ∧ w'.heap[X]? = some (.cells #[.int .i32 x1, .int .u8 x2] 60 (0, 0))) (first | exact box3c hg5 | exact box3c (alloc_old _ hg5) | exact box3c hx6) (first
              | (refine step_append_at _ ?_ (.tmp 57) (.tmp 60) 22 ?_ w.heap.size 21 i0 (.int .i32 0) 1 4 Tryz.underlying22 hi hz0 hz1 hz2 rfl (Nat.zero_lt_succ 0) g out.length c (cl .i32 out) ?_ ?_ ⟨w5.heap.size, 0, none⟩ 1 1 [.int .i32 x1] ?_ rfl ?_ (by simp [Value.oneCell']) (by omega) (by unfold maxLen; omega) (by omega) ?_ ?_; (rfl); (rfl); (rfl); (exact hO5.alloc _); (rfl); (exact news_at rfl); (exact (hB5.alloc hB5.size _).size); intro g6 c6 w6 hO6 hg6' hor6'; have hg6 : (w5.alloc (.cells #[.int .i32 x1] 21)).grownBy w6 (some g) := (by first | exact hg6' | exact gb_undrew hg6'); have hor6 : g6 = g ∨ g6 = (w5.alloc (.cells #[.int .i32 x1] 21)).heap.size := hor6'; have hx6 : w6.heap[X]? = some (.cells #[.int .i32 x1, .int .u8 x2] 60 (0, 0)) := (hg6.block X (Nat.lt_of_lt_of_le hX5 (le_alloc w5 _)) (by simpa using Ne.symm hgX)).trans (alloc_old _ hg5))
              | fail)
            all_goals (
              go_wp2_with fail
              go_roundg (l.length - (k + 1))
              case measure => omega
              case rel =>
                have hB6 : Below w.heap.size w w6 := (hB5.alloc hB5.size (.cells #[.int .i32 x1] 21)).grown hg6 (hB5.alloc hB5.size _).size (fun k e => by cases e; exact hgb)
                have hM6 := (hM5.below ((Below.refl _ w5).alloc (Nat.le_refl _) (.cells #[.int .i32 x1] 21))).kept hg6 (by simpa using Ne.symm hgne)
                have e5 : (stAt l (k + 1)).out = out ++ [x1] := by rw [HSE.out]; rfl
                have e6 : (stAt l (k + 1)).last = x2 := by rw [HSE.out]; rfl
                refine ⟨k + 1, g6, c6, by go_num, rfl, by omega, by rw [e5, List.length_append]; rfl, by rw [HST5.out], by rw [e6], ?_, hB6, hM6, ?_⟩
                · rw [e5, List.length_append, show cl .i32 (out ++ [x1]) = cl .i32 out ++ [.int .i32 x1] from by simp [cl]]
                  exact hO6
                · rcases hor6 with rfl | rfl
                  · exact hgne
                  · have := hM5.lt
                    have := le_alloc w5 (.cells #[.int .i32 x1] 21)
                    omega)
    · obtain rfl : k = l.length := by omega
      have hltz : ¬ ((l.length : Nat) : Int) < (l.length : Int) := by omega
      rw [← comp_at] at hO ⊢
      go_wp2_with fail
      go_ret
      exact ⟨g, c, rfl, hO, hB⟩
end Go.Proofs.YtenfdnnagijfnaaGreatDoor
