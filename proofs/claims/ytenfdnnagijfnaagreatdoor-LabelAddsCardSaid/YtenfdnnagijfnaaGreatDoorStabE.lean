import Derived.Test.YtenfdnnagijfnaaGreatDoorStabB
import Derived.Deep.DeepCutAuto
/-
  The library's stable sort at []classed: merging as mathematics; the test of two elements.
-/
namespace Go.Proofs.YtenfdnnagijfnaaGreatDoor
open Go.RowKit Norm Go.Shelf Go.Sort Go.Lib

theorem srt_le {l : List C} (h : Srt l) {i j : Nat} (hij : i ≤ j) (hj : j < l.length) : l[i]!.2 ≤ l[j]!.2 := by
  rw [getElem!_pos l i (by omega), getElem!_pos l j hj]
  rcases Nat.lt_or_ge i j with hlt | hge
  · exact List.pairwise_iff_getElem.1 h i j (by omega) hj hlt
  · obtain rfl : i = j := by omega
    exact Int.le_refl _
theorem srt_take {l : List C} (h : Srt l) (k : Nat) : Srt (l.take k) := h.sublist (List.take_sublist k l)
theorem srt_drop {l : List C} (h : Srt l) (k : Nat) : Srt (l.drop k) := h.sublist (List.drop_sublist k l)
theorem mem_take! {l : List C} {k : Nat} {x : C} (h : x ∈ l.take k) : ∃ i, i < k ∧ i < l.length ∧ l[i]! = x := by
  obtain ⟨i, hi, rfl⟩ := List.getElem_of_mem h
  rw [List.length_take] at hi
  exact ⟨i, by omega, by omega, by rw [getElem!_pos l i (by omega), List.getElem_take]⟩
theorem mem_drop! {l : List C} {k : Nat} {x : C} (h : x ∈ l.drop k) : ∃ i, k ≤ i ∧ i < l.length ∧ l[i]! = x := by
  obtain ⟨i, hi, rfl⟩ := List.getElem_of_mem h
  rw [List.length_drop] at hi
  exact ⟨k + i, by omega, by omega, by rw [getElem!_pos l (k + i) (by omega), List.getElem_drop]⟩
theorem mem_isS (l : List C) (x : C) : x ∈ isort l ↔ x ∈ l := ⟨fun h => (isort_stb l).symm.mem h, fun h => (isort_stb l).mem h⟩
theorem merge_split {X1 X2 Y1 Y2 : List C} (hX : Srt (X1 ++ X2)) (hY : Srt (Y1 ++ Y2)) (h1 : ∀ x ∈ X2, ∀ y ∈ Y1, y.2 < x.2) (h2 : ∀ x ∈ X1, ∀ y ∈ Y2, x.2 ≤ y.2) : isort (X1 ++ X2 ++ (Y1 ++ Y2)) = isort (X1 ++ Y1) ++ isort (X2 ++ Y2) := by
  refine (isort_of ?_ ?_).symm
  · refine List.pairwise_append.2 ⟨isort_srt _, isort_srt _, fun a ha b hb => ?_⟩
    rw [mem_isS, List.mem_append] at ha hb
    rcases ha with ha | ha <;> rcases hb with hb | hb
    · exact (List.pairwise_append.1 hX).2.2 a ha b hb
    · exact h2 a ha b hb
    · exact Int.le_of_lt (h1 b hb a ha)
    · exact (List.pairwise_append.1 hY).2.2 a ha b hb
  · intro c
    rw [List.filter_append (isort _), ← isort_stb (X1 ++ Y1) c, ← isort_stb (X2 ++ Y2) c]
    simp only [List.filter_append]
    have e : X2.filter (fun x => x.2 == c) ++ Y1.filter (fun x => x.2 == c) = Y1.filter (fun x => x.2 == c) ++ X2.filter (fun x => x.2 == c) := by
      rcases Decidable.em (X2.filter (fun x => x.2 == c) = []) with h | h
      · rw [h]; simp
      · have : Y1.filter (fun x => x.2 == c) = [] := by
          rw [List.filter_eq_nil_iff]
          intro y hy hyc
          obtain ⟨x, hx⟩ := List.exists_mem_of_ne_nil _ h
          rw [List.mem_filter] at hx
          have := h1 x hx.1 y hy
          have e1 := hx.2
          simp only [beq_iff_eq] at e1 hyc
          omega
        rw [this]; simp
    rw [List.append_assoc, ← List.append_assoc (X2.filter _), e]
    simp only [List.append_assoc]
theorem merge_at {X Y : List C} {k e : Nat} (hX : Srt X) (hY : Srt Y) (h1 : k < X.length → 0 < e → e ≤ Y.length → Y[e - 1]!.2 < X[k]!.2) (h2 : 0 < k → k ≤ X.length → e < Y.length → X[k - 1]!.2 ≤ Y[e]!.2) (he : e ≤ Y.length) (hk : k ≤ X.length) :
    isort (X ++ Y) = isort (X.take k ++ Y.take e) ++ isort (X.drop k ++ Y.drop e) := by
  conv => lhs; rw [← List.take_append_drop k X, ← List.take_append_drop e Y]
  refine merge_split (by rw [List.take_append_drop]; exact hX) (by rw [List.take_append_drop]; exact hY) ?_ ?_
  · intro x hx y hy
    obtain ⟨i, i1, i2, rfl⟩ := mem_drop! hx
    obtain ⟨j, j1, j2, rfl⟩ := mem_take! hy
    have := h1 (by omega) (by omega) he
    have a1 := srt_le hX i1 i2
    have a2 := srt_le hY (i := j) (j := e - 1) (by omega) (by omega)
    omega
  · intro x hx y hy
    obtain ⟨i, i1, i2, rfl⟩ := mem_take! hx
    obtain ⟨j, j1, j2, rfl⟩ := mem_drop! hy
    have := h2 (by omega) hk (by omega)
    have a1 := srt_le hX (i := i) (j := k - 1) (by omega) (by omega)
    have a2 := srt_le hY j1 j2
    omega
theorem merge_one {x : C} {Y : List C} {e : Nat} (hY : Srt Y) (he : e ≤ Y.length) (h1 : 0 < e → Y[e - 1]!.2 < x.2) (h2 : e < Y.length → x.2 ≤ Y[e]!.2) : isort ([x] ++ Y) = Y.take e ++ [x] ++ Y.drop e := by
  rw [merge_at (k := 0) (e := e) (List.pairwise_singleton _ _) hY (fun _ h _ => h1 h) (fun h => absurd h (by omega)) he (by simp)]
  rw [List.take_zero, List.nil_append, List.drop_zero, isort_srt_self (srt_take hY e), List.append_assoc]
  congr 1
  refine isort_srt_self (List.pairwise_cons.2 ⟨fun y hy => ?_, srt_drop hY e⟩)
  obtain ⟨j, j1, j2, rfl⟩ := mem_drop! hy
  have := h2 (by omega)
  have a2 := srt_le hY j1 j2
  omega
theorem merge_last {y : C} {X : List C} {k : Nat} (hX : Srt X) (hk : k ≤ X.length) (h1 : k < X.length → y.2 < X[k]!.2) (h2 : 0 < k → X[k - 1]!.2 ≤ y.2) : isort (X ++ [y]) = X.take k ++ [y] ++ X.drop k := by
  rw [merge_at (k := k) (e := 1) hX (List.pairwise_singleton _ _) (fun h _ _ => h1 h) (fun _ _ h => absurd h (by simp)) (by simp) hk]
  rw [show List.take 1 [y] = [y] from rfl, show List.drop 1 [y] = [] from rfl, List.append_nil, isort_srt_self (srt_drop hX k)]
  congr 1
  refine isort_srt_self (List.pairwise_append.2 ⟨srt_take hX k, List.pairwise_singleton _ _, fun a ha b hb => ?_⟩)
  rw [List.mem_singleton] at hb
  subst hb
  obtain ⟨j, j1, j2, rfl⟩ := mem_take! ha
  have := h2 (by omega)
  have a2 := srt_le hX (i := j) (j := k - 1) (by omega) (by omega)
  omega

/-- the element at a place of the row -/
theorem at_X {P X Y S : List C} {i : Nat} (hi : i < X.length) : (P ++ X ++ Y ++ S).toArray[P.length + i]! = X[i]! := by
  rw [getElem!_pos _ _ (by simp; omega), getElem!_pos X i hi]
  simp only [List.getElem_toArray]
  rw [List.getElem_append_left (by simp; omega), List.getElem_append_left (by simp; omega), List.getElem_append_right (by omega)]
  congr 1
  omega
theorem at_Y {P X Y S : List C} {i : Nat} (hi : i < Y.length) : (P ++ X ++ Y ++ S).toArray[P.length + X.length + i]! = Y[i]! := by
  have := at_X (P := P ++ X) (X := Y) (Y := S) (S := []) hi
  rw [List.append_nil, List.length_append] at this
  exact this

/-! the test 'cmp(data[i], data[j]) < 0' -/
theorem cmp_call (x y : C) (W : World) (n : Nat) (os : Array Obj) : Calls Tryz.prog 91 #[.agg #[.int .i32 x.1, .int .u8 x.2], .agg #[.int .i32 y.1, .int .u8 y.2]] (grow (W.drewN n) os) fun e w'' => e = .returned (.int .i64 (cmpZ x.2 y.2)) ∧ ∃ p : GrownBy, w'' = grow (W.drewN p.n) p.os :=
  Calls.grown_of (closure_any x y (grow (W.drewN n) os))
section
variable {w0 W : World} {blk off : Nat} {l0 l : List C}
theorem SWL.cells_g (h : SWL w0 blk off l W) (R : RowC w0 blk off l0) (hs : l.length = l0.length) {i : Nat} (hi : i < l.length) {x : C} (hx : l.toArray[i]! = x) :
    (∀ n os, (grow (W.drewN n) os).cell? ⟨blk, off + i * 2, none⟩ = some (.int .i32 x.1)) ∧ ∀ n os, (grow (W.drewN n) os).cell? ⟨blk, off + i * 2 + 1, none⟩ = some (.int .u8 x.2) := by
  subst hx
  exact ⟨fun n os => ((h.grown n os).cells R hs hi).1, fun n os => ((h.grown n os).cells R hs hi).2.1⟩
end
theorem cmpZ_lt {x y : Int} : cmpZ x y < 0 ↔ x < y := by
  unfold cmpZ
  by_cases h : x < y
  · simp [h]
  · rw [if_neg h]
    split <;> omega
end Go.Proofs.YtenfdnnagijfnaaGreatDoor

/-
  The library's stable sort at []classed: symMerge where the first run is of one.
-/
namespace Go.Proofs.YtenfdnnagijfnaaGreatDoor
open Go.RowKit Norm Go.Shelf Go.Sort Go.Lib

set_option maxRecDepth 100000 in
set_option maxHeartbeats 4000000 in
theorem sm_one (w0 : World) (blk off cap N : Nat) (l0 : List C) (R : RowC w0 blk off l0) (P : List C) (x : C) (Y S : List C) (a m b : Nat) (ha : a = P.length) (hm : m = P.length + 1) (hb : b = P.length + 1 + Y.length) (hY : Srt Y)
    (hN : N = l0.length) (hl : (P ++ [x] ++ Y ++ S).length = N) (h6 : N ≤ 1000000) (W : World) (hS : SWL w0 blk off (P ++ [x] ++ Y ++ S) W) :
    Calls Tryz.prog 128 #[.slice (some ⟨blk, off, none⟩) N cap, .int .i64 a, .int .i64 m, .int .i64 b, .func (.func 91) #[] #[]] W (SwOk w0 blk off (P ++ isort ([x] ++ Y) ++ S)) := by
  have mixed : Tryz.prog.follows .mixedOrders = true := by kernel_rfl
  have HS0 := Lib.hid hS
  obtain ⟨F, hF⟩ : ∃ F, P ++ isort ([x] ++ Y) ++ S = F := ⟨_, rfl⟩
  have HF := Lib.hid hF
  rw [hF]
  clear hF
  have hln : a + 1 + Y.length + S.length = N := by simp at hl; omega
  have HL := Lib.hid hl
  have HNN := Lib.hid hN
  have HP := Lib.hid ha
  have hgx : (P ++ [x] ++ Y ++ S).toArray[a]! = x := by rw [ha]; exact at_X (X := [x]) (i := 0) (by simp)
  have hgy : ∀ i, i < Y.length → (P ++ [x] ++ Y ++ S).toArray[m + i]! = Y[i]! := fun i hi => by rw [hm]; exact at_Y (X := [x]) hi
  have HGX := Lib.hid hgx
  have HGY := Lib.hid hgy
  have e1 : (m : Int) - (a : Int) = 1 := by omega
  have hm' : m = a + 1 := by omega
  have hb' : b = m + Y.length := by omega
  have HM := Lib.hid hm'
  have HB := Lib.hid hb'
  clear hm' hb'
  clear hS hl hN hgx hgy ha hm hb
  go_enter Tryz.func128, Tryz.ntmps128
  go_wp2
  clear e1
  go_loopg [10, 11] Y.length (fun k s10 s11 wr => ∃ i j : Nat, s10 = .int .i64 (i : Int) ∧ s11 = .int .i64 (j : Int) ∧ k = j - i ∧ m ≤ i ∧ i ≤ j ∧ j ≤ b ∧ Hid (m < i → Y[i - m - 1]!.2 < x.2) ∧ Hid (j < b → x.2 ≤ Y[j - m]!.2) ∧ Hid (SWL w0 blk off (P ++ [x] ++ Y ++ S) wr))
  case atStart => exact ⟨m, b, rfl, rfl, by have := HB.out; omega, Nat.le_refl _, by have := HB.out; omega, Nat.le_refl _, Lib.hid (fun h => absurd h (by omega)), Lib.hid (fun h => absurd h (by omega)), HS0⟩
  case round =>
    obtain ⟨i, j, rfl, rfl, rfl, hi, hij, hj, H1, H2, HS⟩ := hrel
    clear HS0
    by_cases hlt : i < j
    · have hltz : (i : Int) < (j : Int) := by omega
      obtain ⟨h, hh⟩ : ∃ h, h = (i + j) / 2 := ⟨_, rfl⟩
      have hhi : i ≤ h := by omega
      have hhj : h < j := by omega
      have hcast : ((i : Int) + (j : Int)) / 2 = (h : Int) := by omega
      have bN := HB.out
      have aN := HM.out
      have hhN : h < N := by omega
      have haN : a < N := by omega
      have sN : i + j ≤ 2000000 := by omega
      clear hh
      go_upto_region 4 with fail
      go_cut [12] (fun s12 wx => s12 = .int .i64 (h : Int) ∧ wx = wr)
      case first =>
        clear bN aN
        go_wp2_with fail
        go_meet
        exact ⟨by first | rfl | go_num, rfl⟩
      case rest =>
        obtain ⟨rfl, hwc⟩ := hcut
        rw [hwc]
        clear hwc hcast
        have hlen : (P ++ [x] ++ Y ++ S).length = l0.length := HL.out.trans HNN.out
        obtain ⟨y, hy⟩ : ∃ y, Y[h - m]! = y := ⟨_, rfl⟩
        have hgy : (P ++ [x] ++ Y ++ S).toArray[h]! = y := by
          have := HGY.out (h - m) (by omega)
          rw [show m + (h - m) = h from by omega, hy] at this
          exact this
        obtain ⟨c0, c1⟩ := SWL.cells_g HS.out R hlen (i := h) (by rw [HL.out]; omega) hgy
        obtain ⟨d0, d1⟩ := SWL.cells_g HS.out R hlen (i := a) (by rw [HL.out]; omega) HGX.out
        have hcc := cmp_call y x wr
        have HY := Lib.hid hy
        have hhz : (h : Int) < (N : Int) := by omega
        have haz : (a : Int) < (N : Int) := by omega
        have HS2 : Hid (∀ n os, SWL w0 blk off (P ++ [x] ++ Y ++ S) (grow (wr.drewN n) os)) := Lib.hid (fun n os => HS.out.grown n os)
        clear hy hgy hlen bN aN HS
        by_cases hlt2 : y.2 < x.2
        · have hz := cmpZ_lt.2 hlt2
          go_wp2_with fail
          go_quiet_grown (first | (go_at_call 91; exact hcc _ _))
          go_wp2_with fail
          go_roundg (j - (h + 1))
          case measure => omega
          case rel => exact ⟨h + 1, j, by go_num, rfl, rfl, by omega, by omega, hj, Lib.hid (fun _ => by rw [show h + 1 - m - 1 = h - m from by omega, HY.out]; exact hlt2), H2, Lib.hid (HS2.out _ _)⟩
        · have hz : ¬ cmpZ y.2 x.2 < 0 := fun h => hlt2 (cmpZ_lt.1 h)
          go_wp2_with fail
          go_quiet_grown (first | (go_at_call 91; exact hcc _ _))
          go_wp2_with fail
          go_roundg (h - i)
          case measure => omega
          case rel => exact ⟨i, h, rfl, rfl, rfl, hi, by omega, by omega, H1, Lib.hid (fun _ => by rw [HY.out]; omega), Lib.hid (HS2.out _ _)⟩
    · obtain rfl : i = j := by omega
      have hltz : ¬ ((i : Nat) : Int) < (i : Int) := by omega
      have bN := HB.out
      have aN := HM.out
      obtain ⟨e, he⟩ : ∃ e, e = i - m := ⟨_, rfl⟩
      have heY : e ≤ Y.length := by omega
      have HMG : Hid (P ++ isort ([x] ++ Y) ++ S = P ++ Y.take e ++ [x] ++ Y.drop e ++ S) := Lib.hid (by
        rw [merge_one hY heY (fun h => by have := H1.out (by omega); rw [he]; exact this) (fun h => by have := H2.out (by omega); rw [he]; exact this)]
        simp only [List.append_assoc])
      have hie : i = a + 1 + e := by omega
      have HSE : Hid (SWL w0 blk off (P ++ Y.take 0 ++ [x] ++ Y.drop 0 ++ S) wr) := Lib.hid (by rw [List.take_zero, List.append_nil, List.drop_zero]; exact HS.out)
      have heN : a + 1 + e ≤ N := by omega
      have HIE := Lib.hid hie
      clear bN aN he H1 H2 HS HM HB HL hltz hi hij hj HGX HGY hlt hie
      have hiz : ((i : Int) < (i : Int)) = False := by simp
      go_wp2_with fail
      clear hiz
      go_loopg [13] e (fun k s13 wr => ∃ t c : Nat, s13 = .int .i64 (c : Int) ∧ c = a + t ∧ k = e - t ∧ t ≤ e ∧ Hid (SWL w0 blk off (P ++ Y.take t ++ [x] ++ Y.drop t ++ S) wr))
      case atStart => exact ⟨0, a, rfl, rfl, rfl, Nat.zero_le _, HSE⟩
      case round =>
        obtain ⟨t, c, rfl, hc, rfl, ht, HS⟩ := hrel
        clear HSE
        have hie := HIE.out
        by_cases hlt : t < e
        · have hltz : (c : Int) < (i : Int) - 1 := by omega
          have hy : Y.drop t = Y[t] :: Y.drop (t + 1) := List.drop_eq_getElem_cons (by omega)
          have hy2 : Y.take (t + 1) = Y.take t ++ [Y[t]] := by rw [List.take_add_one, List.getElem?_eq_getElem (by omega)]; rfl
          obtain ⟨y, hyy⟩ : ∃ y, Y[t] = y := ⟨_, rfl⟩
          rw [hyy] at hy hy2
          have q1 : P ++ Y.take t ++ [x] ++ Y.drop t ++ S = (P ++ Y.take t) ++ x :: [] ++ y :: (Y.drop (t + 1) ++ S) := by rw [hy]; simp
          have q2 : P ++ Y.take (t + 1) ++ [x] ++ Y.drop (t + 1) ++ S = (P ++ Y.take t) ++ y :: [] ++ x :: (Y.drop (t + 1) ++ S) := by rw [hy2]; simp
          have la : (P ++ Y.take t).length = c := by have := HP.out; simp; omega
          have hS := HS.out
          rw [q1] at hS
          have ll : ((P ++ Y.take t) ++ x :: [] ++ y :: (Y.drop (t + 1) ++ S)).length = N := by have := HP.out; simp; omega
          have HQ2 := Lib.hid q2
          generalize P ++ Y.take t = A at hS la ll HQ2
          generalize Y.drop (t + 1) ++ S = D at hS ll HQ2
          have g1 : (A ++ x :: [] ++ y :: D).toArray[c]! = x := by rw [← la, List.append_assoc, List.cons_append]; exact lget A x _
          have g2 : (A ++ x :: [] ++ y :: D).toArray[c + 1]! = y := by rw [← la]; exact lget2 A x [] y D
          have g3 : swp (A ++ x :: [] ++ y :: D).toArray c (c + 1) = (A ++ y :: [] ++ x :: D).toArray := by rw [← la]; exact lswp A x [] y D
          have hNN := HNN.out
          obtain ⟨c0, c1, f0, f1⟩ := hS.cells R (by omega) (i := c) (by omega)
          obtain ⟨d0, d1, k0, k1⟩ := hS.cells R (by omega) (i := c + 1) (by omega)
          rw [g1] at c0 c1
          rw [g2] at d0 d1
          have HSW := Lib.hid (hS.swapped R (i := c) (j := c + 1) (by omega) (by omega) g1 g2 g3)
          have HC := Lib.hid hc
          have iN : i ≤ N := by omega
          have i1 : 1 ≤ i := by omega
          have wi : IntKind.i64.wrap ((i : Int) - 1) = (i : Int) - 1 := by rw [IntKind.wrap_i64]; omega
          have bc : (c : Int) < (N : Int) := by omega
          have bc1 : (c : Int) + 1 < (N : Int) := by omega
          have ec : ((c : Int) + 1).toNat = c + 1 := by omega
          have pc : (0 : Int) ≤ (c : Int) + 1 := by omega
          have wc1 : IntKind.i64.wrap ((c : Int) + 1) = (c : Int) + 1 := by rw [IntKind.wrap_i64]; omega
          clear q1 q2 hy hy2 hyy HS hS g1 g2 g3 hNN hie la ll hc
          go_wp2_with fail
          go_big_region_o
          go_wp2_with fail
          go_roundg (e - (t + 1))
          case measure => omega
          case rel => exact ⟨t + 1, c + 1, by go_num, by have := HC.out; omega, rfl, by omega, Lib.hid (by rw [HQ2.out]; exact HSW.out)⟩
        · obtain rfl : t = e := by omega
          have hltz : ¬ (c : Int) < (i : Int) - 1 := by omega
          have iN : i ≤ N := by omega
          have wi : IntKind.i64.wrap ((i : Int) - 1) = (i : Int) - 1 := by rw [IntKind.wrap_i64]; omega
          go_wp2_with fail
          go_end0
          exact ⟨rfl, by rw [← HF.out, HMG.out]; exact HS.out⟩
end Go.Proofs.YtenfdnnagijfnaaGreatDoor

/-
  The library's stable sort at []classed: symMerge where the second run is of one.
-/
namespace Go.Proofs.YtenfdnnagijfnaaGreatDoor
open Go.RowKit Norm Go.Shelf Go.Sort Go.Lib

theorem lswp2 (A : List C) (x : C) (B : List C) (y : C) (D : List C) : swp (A ++ x :: B ++ y :: D).toArray (A.length + 1 + B.length) A.length = (A ++ y :: B ++ x :: D).toArray := by
  have e1 : (A ++ x :: B ++ y :: D).toArray[A.length]! = x := by rw [List.append_assoc, List.cons_append]; exact lget A x _
  have e2 := lget2 A x B y D
  apply Array.ext'
  unfold swp
  rw [e1, e2]
  have : ((A ++ x :: B ++ y :: D).set (A.length + 1 + B.length) x).set A.length y = A ++ y :: B ++ x :: D := by
    rw [List.append_assoc, List.cons_append, List.set_append_right _ _ (by omega), show A.length + 1 + B.length - A.length = B.length + 1 from by omega, List.set_cons_succ, List.set_append_right _ _ (Nat.le_refl _), Nat.sub_self, List.set_cons_zero, List.set_append_right _ _ (Nat.le_refl _), Nat.sub_self, List.set_cons_zero]
    simp
  simpa using this

set_option maxRecDepth 100000 in
set_option maxHeartbeats 4000000 in
theorem sm_last (w0 : World) (blk off cap N : Nat) (l0 : List C) (R : RowC w0 blk off l0) (P : List C) (X : List C) (y : C) (S : List C) (a m b n1 : Nat) (ha : a = P.length) (hn1 : X.length = n1) (h1 : 1 < n1) (hm : m = P.length + n1) (hb : b = P.length + n1 + 1) (hX : Srt X)
    (hN : N = l0.length) (hl : (P ++ X ++ [y] ++ S).length = N) (h6 : N ≤ 1000000) (W : World) (hS : SWL w0 blk off (P ++ X ++ [y] ++ S) W) :
    Calls Tryz.prog 128 #[.slice (some ⟨blk, off, none⟩) N cap, .int .i64 a, .int .i64 m, .int .i64 b, .func (.func 91) #[] #[]] W (SwOk w0 blk off (P ++ isort (X ++ [y]) ++ S)) := by
  have mixed : Tryz.prog.follows .mixedOrders = true := by kernel_rfl
  have HS0 := Lib.hid hS
  obtain ⟨F, hF⟩ : ∃ F, P ++ isort (X ++ [y]) ++ S = F := ⟨_, rfl⟩
  have HF := Lib.hid hF
  rw [hF]
  clear hF
  have hln : a + n1 + 1 + S.length = N := by simp at hl; omega
  have HL := Lib.hid hl
  have HNN := Lib.hid hN
  have HP := Lib.hid ha
  have HXL := Lib.hid hn1
  have hgy : (P ++ X ++ [y] ++ S).toArray[m]! = y := by rw [hm, ← hn1]; exact at_Y (Y := [y]) (i := 0) (by simp)
  have hgx : ∀ i, i < n1 → (P ++ X ++ [y] ++ S).toArray[a + i]! = X[i]! := fun i hi => by rw [ha]; exact at_X (by omega)
  have HGX := Lib.hid hgx
  have HGY := Lib.hid hgy
  have e1 : (m : Int) - (a : Int) = (n1 : Int) := by omega
  have n1b : ((n1 : Int) == 1) = false := by simp; omega
  have n1p : ¬ (n1 : Int) = 1 := by omega
  have e2 : (b : Int) - (m : Int) = 1 := by omega
  have hm' : m = a + n1 := by omega
  have HM := Lib.hid hm'
  have hmN : m < N := by omega
  have haN : a < N := by omega
  have hbN : b ≤ N := by omega
  clear hS hl hN hgx hgy ha hm hb hm' hn1
  go_enter Tryz.func128, Tryz.ntmps128
  go_wp2
  clear e1 e2 n1b n1p
  go_loopg [14, 15] n1 (fun k s14 s15 wr => ∃ i j : Nat, s14 = .int .i64 (i : Int) ∧ s15 = .int .i64 (j : Int) ∧ k = j - i ∧ a ≤ i ∧ i ≤ j ∧ j ≤ m ∧ Hid (a < i → X[i - a - 1]!.2 ≤ y.2) ∧ Hid (j < m → y.2 < X[j - a]!.2) ∧ Hid (SWL w0 blk off (P ++ X ++ [y] ++ S) wr))
  case atStart => exact ⟨a, m, rfl, rfl, by have := HM.out; omega, Nat.le_refl _, by have := HM.out; omega, Nat.le_refl _, Lib.hid (fun h => absurd h (by omega)), Lib.hid (fun h => absurd h (by omega)), HS0⟩
  case round =>
    obtain ⟨i, j, rfl, rfl, rfl, hi, hij, hj, H1, H2, HS⟩ := hrel
    clear HS0
    by_cases hlt : i < j
    · have hltz : (i : Int) < (j : Int) := by omega
      obtain ⟨h, hh⟩ : ∃ h, h = (i + j) / 2 := ⟨_, rfl⟩
      have hhi : i ≤ h := by omega
      have hhj : h < j := by omega
      have hcast : ((i : Int) + (j : Int)) / 2 = (h : Int) := by omega
      have aN := HM.out
      have hhN : h < N := by omega
      have sN : i + j ≤ 2000000 := by omega
      clear hh
      go_upto_region 16 with fail
      go_cut [16] (fun s16 wx => s16 = .int .i64 (h : Int) ∧ wx = wr)
      case first =>
        clear aN
        go_wp2_with fail
        go_meet
        exact ⟨by first | rfl | go_num, rfl⟩
      case rest =>
        obtain ⟨rfl, hwc⟩ := hcut
        rw [hwc]
        clear hwc hcast
        have hlen : (P ++ X ++ [y] ++ S).length = l0.length := HL.out.trans HNN.out
        obtain ⟨x, hx⟩ : ∃ x, X[h - a]! = x := ⟨_, rfl⟩
        have hgx : (P ++ X ++ [y] ++ S).toArray[h]! = x := by
          have := HGX.out (h - a) (by omega)
          rw [show a + (h - a) = h from by omega, hx] at this
          exact this
        obtain ⟨c0, c1⟩ := SWL.cells_g HS.out R hlen (i := h) (by rw [HL.out]; omega) hgx
        obtain ⟨d0, d1⟩ := SWL.cells_g HS.out R hlen (i := m) (by rw [HL.out]; omega) HGY.out
        have hcc := cmp_call y x wr
        have HX := Lib.hid hx
        have hhz : (h : Int) < (N : Int) := by omega
        have hmz : (m : Int) < (N : Int) := by omega
        have HS2 : Hid (∀ n os, SWL w0 blk off (P ++ X ++ [y] ++ S) (grow (wr.drewN n) os)) := Lib.hid (fun n os => HS.out.grown n os)
        clear hx hgx hlen aN HS
        by_cases hlt2 : y.2 < x.2
        · have hz := cmpZ_lt.2 hlt2
          have hzb : decide (cmpZ y.2 x.2 < 0) = true := decide_eq_true hz
          go_wp2_with fail
          go_quiet_grown (first | (go_at_call 91; exact hcc _ _))
          go_wp2_with fail
          go_roundg (h - i)
          case measure => omega
          case rel => exact ⟨i, h, rfl, rfl, rfl, hi, by omega, by omega, H1, Lib.hid (fun _ => by rw [HX.out]; exact hlt2), Lib.hid (HS2.out _ _)⟩
        · have hz : ¬ cmpZ y.2 x.2 < 0 := fun h => hlt2 (cmpZ_lt.1 h)
          have hzb : decide (cmpZ y.2 x.2 < 0) = false := decide_eq_false hz
          have hzc : 0 ≤ cmpZ y.2 x.2 := by omega
          go_wp2_with fail
          go_quiet_grown (first | (go_at_call 91; exact hcc _ _))
          go_wp2_with fail
          go_roundg (j - (h + 1))
          case measure => omega
          case rel => exact ⟨h + 1, j, by go_num, rfl, rfl, by omega, by omega, hj, Lib.hid (fun _ => by rw [show h + 1 - a - 1 = h - a from by omega, HX.out]; omega), H2, Lib.hid (HS2.out _ _)⟩
    · obtain rfl : i = j := by omega
      have hltz : ¬ ((i : Nat) : Int) < (i : Int) := by omega
      have aN := HM.out
      have xN := HXL.out
      obtain ⟨e, he⟩ : ∃ e, e = i - a := ⟨_, rfl⟩
      have heX : e ≤ n1 := by omega
      have HMG : Hid (P ++ isort (X ++ [y]) ++ S = P ++ X.take e ++ [y] ++ X.drop e ++ S) := Lib.hid (by
        rw [merge_last (k := e) hX (by omega) (fun h => by have := H2.out (by omega); rw [he]; exact this) (fun h => by have := H1.out (by omega); rw [he]; exact this)]
        simp only [List.append_assoc])
      have hie : i = a + e := by omega
      have HSE : Hid (SWL w0 blk off (P ++ X.take n1 ++ [y] ++ X.drop n1 ++ S) wr) := Lib.hid (by rw [List.take_of_length_le (by omega), List.drop_eq_nil_of_le (by omega), List.append_nil]; exact HS.out)
      have HIE := Lib.hid hie
      clear he H1 H2 HS HL hi hij hj HGX HGY hlt hie aN xN
      go_wp2_with fail
      go_loopg [17] (n1 - e) (fun k s17 wr => ∃ q c : Nat, s17 = .int .i64 (c : Int) ∧ c = a + q ∧ k = q - e ∧ e ≤ q ∧ q ≤ n1 ∧ Hid (SWL w0 blk off (P ++ X.take q ++ [y] ++ X.drop q ++ S) wr))
      case atStart => exact ⟨n1, m, rfl, HM.out, rfl, heX, Nat.le_refl _, HSE⟩
      case round =>
        obtain ⟨q, c, rfl, hc, rfl, hq, hqn, HS⟩ := hrel
        clear HSE
        have hie := HIE.out
        by_cases hlt : e < q
        · obtain ⟨q, rfl⟩ : ∃ q', q = q' + 1 := ⟨q - 1, by omega⟩
          obtain ⟨c, rfl⟩ : ∃ c', c = c' + 1 := ⟨c - 1, by omega⟩
          have hltz : (i : Int) < (c : Int) + 1 := by omega
          have xN := HXL.out
          have hx : X.drop q = X[q] :: X.drop (q + 1) := List.drop_eq_getElem_cons (by omega)
          have hx2 : X.take (q + 1) = X.take q ++ [X[q]] := by rw [List.take_add_one, List.getElem?_eq_getElem (by omega)]; rfl
          obtain ⟨x, hxx⟩ : ∃ x, X[q] = x := ⟨_, rfl⟩
          rw [hxx] at hx hx2
          have q1 : P ++ X.take (q + 1) ++ [y] ++ X.drop (q + 1) ++ S = (P ++ X.take q) ++ x :: [] ++ y :: (X.drop (q + 1) ++ S) := by rw [hx2]; simp
          have q2 : P ++ X.take q ++ [y] ++ X.drop q ++ S = (P ++ X.take q) ++ y :: [] ++ x :: (X.drop (q + 1) ++ S) := by rw [hx]; simp
          have la : (P ++ X.take q).length = c := by have := HP.out; simp; omega
          have hS := HS.out
          rw [q1] at hS
          have ll : ((P ++ X.take q) ++ x :: [] ++ y :: (X.drop (q + 1) ++ S)).length = N := by have := HP.out; simp; omega
          obtain ⟨LQ, hLQ⟩ : ∃ LQ, P ++ X.take q ++ [y] ++ X.drop q ++ S = LQ := ⟨_, rfl⟩
          have HLQ := Lib.hid hLQ
          rw [hLQ] at q2
          have HQ2 := Lib.hid q2
          clear hLQ
          generalize P ++ X.take q = A at hS la ll HQ2
          generalize X.drop (q + 1) ++ S = D at hS ll HQ2
          have g1 : (A ++ x :: [] ++ y :: D).toArray[c]! = x := by rw [← la, List.append_assoc, List.cons_append]; exact lget A x _
          have g2 : (A ++ x :: [] ++ y :: D).toArray[c + 1]! = y := by rw [← la]; exact lget2 A x [] y D
          have g3 : swp (A ++ x :: [] ++ y :: D).toArray (c + 1) c = (A ++ y :: [] ++ x :: D).toArray := by rw [← la]; exact lswp2 A x [] y D
          have hNN := HNN.out
          obtain ⟨c0, c1, f0, f1⟩ := hS.cells R (by omega) (i := c) (by omega)
          obtain ⟨d0, d1, k0, k1⟩ := hS.cells R (by omega) (i := c + 1) (by omega)
          rw [g1] at c0 c1
          rw [g2] at d0 d1
          have HSW := Lib.hid (hS.swapped R (i := c + 1) (j := c) (by omega) (by omega) g2 g1 g3)
          have HC := Lib.hid hc
          have bc : (c : Int) < (N : Int) := by omega
          have bc1 : (c : Int) + 1 < (N : Int) := by omega
          have ec : ((c : Int) + 1).toNat = c + 1 := by omega
          have pc : (0 : Int) ≤ (c : Int) + 1 := by omega
          have pc0 : (0 : Int) ≤ (c : Int) := by omega
          have wc1 : IntKind.i64.wrap (c : Int) = (c : Int) := by rw [IntKind.wrap_i64]; omega
          clear q1 q2 hx hx2 hxx HS hS g1 g2 g3 hNN hie la ll hc xN
          go_wp2_with fail
          go_big_region_o
          go_wp2_with fail
          go_roundg (q - e)
          case measure => omega
          case rel => exact ⟨q, c, by go_num, by have := HC.out; omega, rfl, by omega, by omega, Lib.hid (by rw [HLQ.out, HQ2.out]; exact HSW.out)⟩
        · obtain rfl : q = e := by omega
          have hltz : ¬ (i : Int) < (c : Int) := by omega
          go_wp2_with fail
          go_end0
          exact ⟨rfl, by rw [← HF.out, HMG.out]; exact HS.out⟩
end Go.Proofs.YtenfdnnagijfnaaGreatDoor
