/-
  path: parts, Walk.
-/
import Derived.Test.YtjkfppgekepbeaaDoorPthI
namespace Go.Proofs.YtjkfppgekepbeaaDoor.Pth
set_option maxRecDepth 100000
open Go.RowKit Go.Shelf Utf Ut Hst

attribute [local go_sem] Oper.semAt_some

theorem box_go {W W' : World} {B : Nat} {t : TypeId} {v : Value} (h : Boxed W B t v) (hb : Below W.heap.size W W') : Boxed W' B t v := (hb.block B h.lt).trans h
set_option maxHeartbeats 1000000 in
theorem parts_any (s : ByteArray) (hs : s.size ≤ maxLen) (A : Option Addr) (k c : Nat) (w : World) (n : Nat) :
    CallsIn Fence.wide n Tryd.prog 35 #[.string s, .slice A k c] w fun e w' => ∃ B2, e = .returned (.func (.func 54) #[] #[.pointer (some ⟨w.heap.size, 0, none⟩), .pointer (some ⟨B2, 0, none⟩)]) ∧ Boxed w' w.heap.size 22 (.slice A k c) ∧ Boxed w' B2 4 (.bool (spc s)) ∧ Below w.heap.size w w' := by
  have HS := Lib.hid (fun W => Special_any s hs W)
  obtain ⟨q, hq⟩ : ∃ q, spc s = q := ⟨_, rfl⟩
  rw [hq] at HS ⊢
  clear hq hs
  have b0 := Boxed.new w 22 (.slice A k c)
  have hB0 := upA w (.cells #[.slice A k c] 22)
  obtain ⟨w0, hw0⟩ : ∃ w0, w.alloc (.cells #[.slice A k c] 22) = w0 := ⟨_, rfl⟩
  rw [hw0] at b0 hB0
  have HB0 := Lib.hid hB0
  clear hB0
  refine callsIn_of_wp Tryd.func35 rfl trivial ?_ rfl
  simp only [Tryd.ntmps35, List.size_toArray, List.length_cons, List.length_nil, Nat.reduceAdd, Nat.reduceSub, Array.replicate_succ, Array.replicate_zero, List.push_toArray, List.append_toArray, List.nil_append, List.cons_append]
  gi_wp2_with fail
  refine ⟨trivial, (fun h => by cases h), (callsIn_wide.2 (HS.out _)).mono ?_⟩
  rintro e w2 ⟨rfl, hB2⟩
  have b2 := box_go b0 hB2
  gi_wp2_with fail
  go_ret
  exact ⟨w2.heap.size, rfl, b2.alloc _, Boxed.new w2 4 (.bool q), (HB0.out.trans (hB2.mono HB0.out.size)).alloc (Nat.le_trans HB0.out.size hB2.size) _⟩
theorem wgo_len (fl : Bool) : ∀ (x : List (List Int × Bool)) (l : List ByteArray), (wgo fl l x).length ≤ l.length + x.length
  | [], _ => Nat.le_refl _
  | y :: t, l => by
    have ih := wgo_len fl t (stp fl l y.1 y.2)
    have h1 : (stp fl l y.1 y.2).length ≤ l.length + 1 := by
      have h2 := shr_le fl l
      unfold stp
      split
      · rw [List.length_append]
        split <;> simp <;> omega
      · split
        · rw [List.length_append]
          split <;> simp
        · split <;> simp
    show (wgo fl (stp fl l y.1 y.2) t).length ≤ _
    rw [List.length_cons]
    omega
theorem wgo_snoc (fl : Bool) (l : List ByteArray) (x : List (List Int × Bool)) (y : List Int × Bool) : wgo fl l (x ++ [y]) = stp fl (wgo fl l x) y.1 y.2 := by
  rw [wgo_app]
  rfl
theorem prt_len (sp : Bool) : ∀ t, (prt sp t).length ≤ t.length + 1
  | [] => Nat.le_refl _
  | r :: t => by
    have ih := prt_len sp t
    rw [prt_cons]
    split
    · simp
      omega
    · cases h : prt sp t with
      | nil => exact absurd h (prt_ne sp t)
      | cons p q =>
        rw [h] at ih
        simp at ih ⊢
        omega
theorem own_base {w : World} {B B' : Nat} {e : TypeId} {size n : Nat} {v : Value} {xs : List Value} (h : w.ownsRow B e size v n xs) (hB : B' ≤ B) : w.ownsRow B' e size v n xs := by
  refine ⟨h.1, ?_⟩
  rcases h.2 with h | ⟨g, cap, cur, hv, hg, r⟩
  · exact .inl h
  · exact .inr ⟨g, cap, cur, hv, Nat.le_trans hB hg, r⟩
/-- what has been walked so far -/
def WkI (w : World) (s : ByteArray) (l : List ByteArray) (N B1 BW BP BS : Nat) (tv : Value) (pre : List (Pg w N)) (W : World) : Prop :=
  ((Boxed W B1 9 (.string s) ∧ (∃ v, Boxed W BW 23 v ∧ W.ownsRow (w.heap.size + 1) 9 1 v (wgo (fil s) l (pre.map dpg)).length (sx (wgo (fil s) l (pre.map dpg))) ∧ True)) ∧ (Boxed W BP 22 tv ∧ Boxed W BS 4 (.bool (spc s)))) ∧ Below w.heap.size w W
set_option maxRecDepth 100000 in
set_option maxHeartbeats 4000000 in
theorem Walk_in (n : Nat) (hn : 3 ≤ n) (s : ByteArray) (hs : s.size ≤ maxLen) (l : List ByteArray) (A : Option Addr) (m c : Nat) (T : List Int) (A2 : Option Addr) (k c2 : Nat) (w : World) (hm : l.length = m) (hm1 : m ≤ 100000) (hk : T.length = k) (hc2 : k ≤ c2) (hk1 : k ≤ 20000) (hr : Row w w.heap.size A (sx l)) (hr2 : Row w w.heap.size A2 (cl .i32 T)) :
    CallsIn Fence.wide n Tryd.prog 21 #[.string s, .slice A m c, .slice A2 k c2] w (MadeTexts (wlk (spc s) (fil s) l T) w) := by
  have h1 : 1 ≤ n := by omega
  have HK := Lib.hid hk
  have HM := Lib.hid hm
  have HR2 := Lib.hid hr2
  have HS := Lib.hid hs
  have hx0 := Boxed.new w 9 (.string s)
  have hB0 := upA w (.cells #[.string s] 9)
  have hs0 : (w.alloc (.cells #[.string s] 9)).heap.size = w.heap.size + 1 := World.size_alloc ..
  obtain ⟨w0, hw0⟩ : ∃ w0, w.alloc (.cells #[.string s] 9) = w0 := ⟨_, rfl⟩
  rw [hw0] at hx0 hB0 hs0
  have HC := Lib.hid (Clone_any l A m c w0 hm (by omega) ((hr.below hB0).mono hB0.size))
  have HB0 := Lib.hid hB0
  have HS0 := Lib.hid hs0
  clear hk hm hr2 hr hB0 hs0 hs
  refine callsIn_of_wp_marks Tryd.func21 rfl trivial ?_ rfl
  simp only [Tryd.ntmps21, List.size_toArray, List.length_cons, List.length_nil, Nat.reduceAdd, Nat.reduceSub, Array.replicate_succ, Array.replicate_zero, List.push_toArray, List.append_toArray, List.nil_append, List.cons_append]
  gi_wp2_with fail
  refine ⟨trivial, (callsIn_wide.2 HC.out).mono ?_⟩
  rintro e w1 ⟨A1, c1, rfl, hO1, hB1⟩
  have x1 := (box_go hx0 hB1).alloc (.cells #[.slice A1 l.length c1] 23)
  have n1 := Boxed.new w1 23 (.slice A1 l.length c1)
  have hO2 := hO1.alloc (.cells #[.slice A1 l.length c1] 23)
  have hB2 := (HB0.out.trans (hB1.mono HB0.out.size)).alloc (Nat.le_trans HB0.out.size hB1.size) (.cells #[.slice A1 l.length c1] 23)
  obtain ⟨w2, hw2⟩ : ∃ w2, w1.alloc (.cells #[.slice A1 l.length c1] 23) = w2 := ⟨_, rfl⟩
  rw [hw2] at x1 n1 hO2 hB2
  have hcx := x1.cell
  rw [HS0.out] at hO2
  have hwz : w.heap.size < w1.heap.size := by have := hB1.size; have := HS0.out; omega
  gi_wp2_with fail
  refine ⟨trivial, (parts_any s HS.out A2 k c2 _ _).mono ?_⟩
  rintro e w3 ⟨B2, rfl, bT, bS, hB3⟩
  gi_wp2_with fail
  have hsz := hB3.size
  have hwz2 : w1.heap.size < w2.heap.size := by rw [← hw2, World.size_alloc]; omega
  have x3 := box_go x1 hB3
  have n3 := box_go n1 hB3
  have hO3 := own_below hO2 hB3
  have hB03 := upB hB2 hB3
  have hTB := hB2.size
  have HBD := Lib.hid (fun (pre : List (Pg w k)) (h : pre.length < (mk (prt (spc s) T)).length) => (show (wgo (fil s) l (pre.map dpg)).length ≤ 1000000 by
    have h1 := wgo_len (fil s) (pre.map dpg) l
    have h2 := prt_len (spc s) T
    have h3 := mk_len (prt (spc s) T)
    have h4 := HK.out
    have h5 := HM.out
    rw [List.length_map] at h1
    omega))
  clear hcx hO1 hO2 hB1 hB2 hB3 x1 n1 hx0
  refine wpIn_rangeFunc_ownH (F := Fence.wide) rfl h1 (gf := 54) (lb := #[.pointer (some ⟨w2.heap.size, 0, none⟩), .pointer (some ⟨B2, 0, none⟩)]) rfl trivial (enters_of Tryd.func54 (by kernel_rfl) rfl)
    (parts_stops (n - 1) (by omega) w2.heap.size B2 w T A2 k c2 HK.out hc2 (by omega) HR2.out (spc s) w3 hB03 bT bS) KpC.t (KpC.b (by omega) bT.lt bS.lt) (Below.refl _ _) (fun _ => rfl)
    (WkI w s l k w.heap.size w1.heap.size w2.heap.size B2 (.slice A2 k c2))
    (fun _ _ _ => False)
    (OwnFrom.and (OwnFrom.and (OwnFrom.and (Own.from (boxed_own _ _ (fun _ => _)) _) (Own.from (holdsRow_own (w.heap.size + 1) w1.heap.size 23 9 1 (fun pre : List (Pg w k) => (wgo (fil s) l (pre.map dpg)).length) (fun pre : List (Pg w k) => sx (wgo (fil s) l (pre.map dpg))) (fun _ _ => True)) _)) (OwnFrom.and (Own.from (boxed_own _ _ (fun _ => _)) _) (Own.from (boxed_own _ _ (fun _ => _)) _))) (ownFrom_below (Nat.le_refl _) (by omega)))
    (fun _ _ _ _ _ hs _ _ => hs)
    ⟨⟨⟨x3, _, n3, hO3, trivial⟩, bT, bS⟩, hB03⟩
    (fun x a' _ => a' = { tmps := #[.string s, .slice A m c, .slice A2 k c2, .pointer (some ⟨w.heap.size, 0, none⟩), undef, undef, .slice none 0 0, .pointer (some ⟨w1.heap.size, 0, none⟩), .slice x.1.A x.1.n x.1.c, .bool x.1.last, .slice A m c, .slice A1 l.length c1, .string s, .slice A2 k c2, .func (.func 54) #[] #[.pointer (some ⟨w2.heap.size, 0, none⟩), .pointer (some ⟨B2, 0, none⟩)], .slice x.1.A x.1.n x.1.c, .bool x.1.last, undef, undef, undef, undef, undef, undef], defers := [] })
    (fun _ _ _ _ _ _ hs _ _ => hs)
    ?assign ?body ?done ?stop
  case assign =>
    rintro l' pre x W K hI hK
    simp only [encP]
    gi_wp2
    exact hK _ _ (KeepsFrom.refl _ _) ⟨Below.refl _ _, rfl, rfl⟩ hI rfl
  case body =>
    rintro l' pre ⟨⟨pl, pA, pn, pc, plast⟩, hp⟩ a' W hl ⟨r', hr'⟩ ⟨⟨⟨bx, v, bw, hrow, _⟩, bT', bS'⟩, hB⟩ rfl hlt
    obtain ⟨hlen, hpn, hprow⟩ := hp
    have HP1 : Hid (∀ P, wgo (fil s) l (pre.map dpg) = P → wgo (fil s) l ((pre ++ [(⟨⟨pl, pA, pn, pc, plast⟩, ⟨hlen, hpn, hprow⟩⟩ : Pg w k)]).map dpg) = stp (fil s) P pl plast) := Lib.hid (fun P h => by
      rw [List.map_append, List.map_singleton, wgo_snoc, h])
    dsimp only at hlen hpn hprow ⊢
    have hPb := HBD.out pre hlt
    obtain ⟨P, hP⟩ : ∃ P, wgo (fil s) l (pre.map dpg) = P := ⟨_, rfl⟩
    rw [hP] at hrow hPb
    have HP2 := Lib.hid (HP1.out P hP)
    obtain ⟨q, hq⟩ : ∃ q, P.length = q := ⟨_, rfl⟩
    rw [hq] at hrow hPb
    obtain ⟨A4, c4, rfl, hc4, _⟩ := own_form hrow
    have hcx := bx.cell
    have hcw := bw.cell
    have hBW := hB.size
    have hsW : w.heap.size + 1 ≤ W.heap.size := by have := bx.lt; omega
    have HST := Lib.hid (step_any s P A4 q c4 pl pA pn pc plast (w.heap.size + 1) W hsW hq hPb hrow hlen (by omega) ((hprow.below hB).mono (by omega)))
    have HLT := Lib.hid hrow.lt
    clear hP hq hlt HP1
    gi_wp2_with fail
    refine ⟨trivial, (fun h => by cases h), (CallsIn.inRound l' (callsIn_wide.2 HST.out)).mono ?_⟩
    rintro e w4 ⟨A5, c5, rfl, hO5, hG5⟩
    have hrB : ∀ j, ownB A4 = some j → w.heap.size + 1 ≤ j := fun j e => (HLT.out j (by rw [own_B]; exact e)).1
    have bx4 := bx.kept hG5 (fun e => by have := hrB _ e.symm; omega)
    have bw4 := bw.kept hG5 (by have := bw.not_row (by decide) hrow; rwa [own_B] at this)
    have bT4 := bT'.kept hG5 (by have := bT'.not_row (by decide) hrow; rwa [own_B] at this)
    have bS4 := bS'.kept hG5 (by have := bS'.not_row (by decide) hrow; rwa [own_B] at this)
    have hB4 := hB.grown hG5 hBW (fun j e => by have := hrB j e; omega)
    have hk4 : KeepsOthers W w4 := KeepsOthers.of_grownBy hG5 (fun j o e ho => by
      rcases hrow.2 with ⟨hv, _⟩ | ⟨g, cap, cur, hv, _, hg, _⟩
      · injection hv with h1
        subst h1
        cases e
      · injection hv with h1
        subst h1
        cases e
        rw [hg] at ho
        cases ho
        rfl)
    have hcw4 := bw4.cell
    have hfw4 := bw4.frozen
    have hWB : Below w.heap.size W w4 := (Below.refl _ W).grown hG5 hBW (fun j e => by have := hrB j e; omega)
    have hne : B2 ≠ w1.heap.size := fun e => by
      have h1 : w4.heap[w1.heap.size]? = some (.cells #[.bool (spc s)] 4 (0, 0)) := e ▸ bS4
      have h2 : w4.heap[w1.heap.size]? = some (.cells #[.slice A4 q c4] 23 (0, 0)) := bw4
      rw [h1] at h2
      injection h2 with h2
      injection h2 with _ h3 _
      revert h3
      decide
    have hOn := (bw4.not_row (by decide) hO5).symm
    gi_wp2_with fail
    refine ⟨(hk4.trans (KeepsOthers.setCell _ _ _)).from _, ⟨hWB.setCell (p := ⟨w1.heap.size, 0, none⟩) (Nat.le_of_lt hwz) _, ((bT4.other (by omega) _).trans bT'.symm), ((bS4.other hne _).trans bS'.symm)⟩, ⟨⟨⟨bx4.other (by omega) _, _, bw4.set _, ?_, trivial⟩, bT4.other (by omega) _, bS4.other hne _⟩, hB4.setCell (p := ⟨w1.heap.size, 0, none⟩) (Nat.le_of_lt hwz) _⟩⟩
    rw [HP2.out]
    exact hO5.kept (grownBy_setCell' w4 w1.heap.size _) (.inr hOn)
  case done =>
    rintro D ys W hD hys ⟨⟨⟨bx, v, bw, hrow, _⟩, bT', bS'⟩, hB⟩ hK
    have hP : wgo (fil s) l (ys.map dpg) = wlk (spc s) (fil s) l T := by rw [hys]; rfl
    rw [hP] at hrow
    obtain ⟨A4, c4, rfl, hc4, _⟩ := own_form hrow
    have hc := bw.cell
    obtain ⟨P, hPP⟩ : ∃ P, wlk (spc s) (fil s) l T = P := ⟨_, rfl⟩
    rw [hPP] at hrow hc
    have HPP := Lib.hid hPP
    clear hys hP hPP
    gi_wp2
    refine ⟨by simp, .inl ⟨_, _, rfl, run_takeDeferred hK, ?_⟩⟩
    refine ⟨_, results_tmp rfl _ _ _, ?_⟩
    rw [HPP.out]
    exact ⟨A4, c4, rfl, ownsRow_putObj (own_base (B' := w.heap.size) hrow (Nat.le_succ _)) _ hK rfl, hB.trans (belowK_b (w := w) (Nat.le_refl _) W D _ _ (by omega) hK rfl rfl)⟩
  case stop =>
    rintro D c pre W _ _ h _
    exact h.elim
/-- the path behind a walk -/
theorem Walk_any (s : ByteArray) (hs : s.size ≤ maxLen) (l : List ByteArray) (A : Option Addr) (m c : Nat) (T : List Int) (A2 : Option Addr) (k c2 : Nat) (w : World) (hm : l.length = m) (hm1 : m ≤ 100000) (hk : T.length = k) (hc2 : k ≤ c2) (hk1 : k ≤ 20000) (hr : Row w w.heap.size A (sx l)) (hr2 : Row w w.heap.size A2 (cl .i32 T)) :
    Calls Tryd.prog 21 #[.string s, .slice A m c, .slice A2 k c2] w (MadeTexts (wlk (spc s) (fil s) l T) w) := callsIn_wide.1 (Walk_in 3 (Nat.le_refl _) s hs l A m c T A2 k c2 w hm hm1 hk hc2 hk1 hr hr2)
end Go.Proofs.YtjkfppgekepbeaaDoor.Pth
