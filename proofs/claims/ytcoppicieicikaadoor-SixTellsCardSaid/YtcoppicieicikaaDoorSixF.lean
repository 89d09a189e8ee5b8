/-
  six: pieces; read.
-/
import Derived.Test.YtcoppicieicikaaDoorSixE
namespace Go.Proofs.YtcoppicieicikaaDoor.Sx
open Go.RowKit Go.Shelf

theorem len_dl (s : ByteArray) : (dl s).length = s.size := by simp [dl]
theorem pt_mem (s : ByteArray) : (cutg (dl ⟨#[46]⟩) (dl s)).isSome = decide ((46 : UInt8) ∈ dl s) := by
  show (cutg [46] (dl s)).isSome = _
  cases h : cutg [46] (dl s) with
  | none => rw [decide_eq_false (cut1_mem h)]; rfl
  | some p => rw [decide_eq_true]; rfl
              rw [(cut1_some h).1]; simp
set_option maxHeartbeats 1000000 in
theorem pieces_any (s : ByteArray) (q : Bool) (hs : s.size ≤ 1000000) (w : World) (hE : Env w) : Calls Tryd.prog 57 #[.string s, .bool q] w (RowR (rd q [dl s]) w) := by
  have HC := Lib.hid (Contains_any s ⟨#[46]⟩ (by simp [dl]) hs w hE)
  rw [pt_mem] at HC
  have HF := Lib.hid (four_any s hs w hE)
  have hz := len_dl s
  by_cases hq : q = true ∧ (46 : UInt8) ∈ dl s
  · obtain ⟨rfl, hm⟩ := hq
    rw [rd, if_pos ⟨rfl, hm⟩]
    rw [decide_eq_true hm] at HC
    clear hz hm
    go_enter Tryd.func57, Tryd.ntmps57
    go_wp2_with fail
    refine HC.out.mono ?_
    rintro e w1 ⟨rfl, rfl⟩
    go_wp2_with fail
    refine HF.out.mono ?_
    rintro e w2 ⟨h1, hB⟩
    cases ho : four (dl s) with
    | none =>
      rw [ho] at h1
      obtain rfl := h1
      go_wp2_with fail
      go_ret
      exact rowR_none ho hB
    | some y =>
      rw [ho] at h1
      obtain ⟨A, c, rfl, hr⟩ := h1
      go_wp2_with fail
      go_ret
      exact rowR_some ho rfl hr hB
  · rw [rd, if_neg hq]
    have HR : Hid (∀ (e : Ending) (w' : World), RowR ((pce (dl s)).map fun a => [a]) w e w' → RowR ((pce (dl s)).map fun a => [a]) w e w') := Lib.hid (fun _ _ h => h)
    have hU := fun (h4 : s.size ≤ 4) => ParseUint16_any s h4 w hE
    have HU := Lib.hid hU
    have HP : Hid (4 < s.size → pce (dl s) = none) := Lib.hid (fun h => by unfold pce; rw [if_pos (.inr (by omega))])
    have HLT : Hid (∀ n, pce (dl s) = some n → n < 65536) := Lib.hid (fun n h => pce_lt h)
    obtain ⟨m, hm⟩ : ∃ m, decide ((46 : UInt8) ∈ dl s) = m := ⟨_, rfl⟩
    rw [hm] at HC
    have hqm : q = false ∨ (q = true ∧ m = false) := by
      cases q with
      | false => exact .inl rfl
      | true => exact .inr ⟨rfl, by rw [← hm]; exact decide_eq_false fun e => hq ⟨rfl, e⟩⟩
    clear hq hm hz hU
    obtain ⟨o, ho⟩ : ∃ o, pce (dl s) = o := ⟨_, rfl⟩
    rw [ho] at HP HLT HU ⊢
    clear HR ho
    by_cases h4 : s.size ≤ 4
    · have h4z : ¬ (4 < (s.size : Int)) := by omega
      have HU4 := Lib.hid (HU.out h4)
      clear HU
      rcases hqm with rfl | ⟨rfl, rfl⟩
      · go_enter Tryd.func57, Tryd.ntmps57
        cases o with
        | none =>
          go_wp2_with fail
          refine HU4.out.mono ?_
          rintro e w1 ⟨⟨v, te, pe, rfl⟩, hB⟩
          go_wp2_with fail
          go_ret
          exact ⟨rfl, hB⟩
        | some n =>
          have hn := HLT.out n rfl
          have hnz : (n : Int) < 65536 := by omega
          go_wp2_with fail
          refine HU4.out.mono ?_
          rintro e w1 ⟨rfl, hB⟩
          go_wp2_with fail
          go_ret
          refine rowR_some rfl rfl ?_ (upB hB (upA w1 _))
          rw [World.size_alloc]
          exact row_new w1 _ 22 _ (by simp [cu])
      · go_enter Tryd.func57, Tryd.ntmps57
        cases o with
        | none =>
          go_wp2_with (first | (go_at_call 22; refine HC.out.mono ?_; rintro e w0 ⟨rfl, rfl⟩) | fail)
          refine HU4.out.mono ?_
          rintro e w1 ⟨⟨v, te, pe, rfl⟩, hB⟩
          go_wp2_with fail
          go_ret
          exact ⟨rfl, hB⟩
        | some n =>
          have HNN := Lib.hid (HLT.out n rfl)
          clear HLT HP
          go_wp2_with (first | (go_at_call 22; refine HC.out.mono ?_; rintro e w0 ⟨rfl, rfl⟩) | fail)
          refine HU4.out.mono ?_
          rintro e w1 ⟨rfl, hB⟩
          have hnz : (n : Int) < 65536 := by have := HNN.out; omega
          go_wp2_with fail
          go_ret
          refine rowR_some rfl rfl ?_ (upB hB (upA w1 _))
          rw [World.size_alloc]
          exact row_new w1 _ 22 _ (by simp [cu])
    · have h4z : decide ((4 : Int) < (s.size : Int)) = true := decide_eq_true (by omega)
      have ho := HP.out (by omega)
      subst ho
      clear HU h4 HP HLT HF
      rcases hqm with rfl | ⟨rfl, rfl⟩
      · go_enter Tryd.func57, Tryd.ntmps57
        go_wp2_with fail
        go_ret
        exact ⟨rfl, Below.refl _ _⟩
      · go_enter Tryd.func57, Tryd.ntmps57
        go_wp2_with (first | (go_at_call 22; refine HC.out.mono ?_; rintro e w0 ⟨rfl, rfl⟩) | fail)
        go_ret
        exact ⟨rfl, Below.refl _ _⟩

/-! read. -/
theorem info_split {i : TypeId} {z : Value} {a b : Nat} (h : (Tryd.prog.info? i).map (fun i => (i.zero, i.size, i.bytes)) = some (some z, a, b)) : ∃ x, Tryd.prog.info? i = some x ∧ x.zero = some z ∧ x.size = a ∧ x.bytes = b := by
  cases hx : Tryd.prog.info? i with
  | none => rw [hx] at h; cases h
  | some x => rw [hx] at h; simp only [Option.map_some, Option.some.injEq, Prod.mk.injEq] at h; exact ⟨x, rfl, h.1, h.2.1, h.2.2⟩
theorem own_form {w : World} {base : Nat} {e : TypeId} {size n : Nat} {v : Value} {xs : List Value} (h : w.ownsRow base e size v n xs) : ∃ A c, v = .slice A n c ∧ n ≤ c ∧ Row w w.heap.size A xs := by
  rcases h.2 with ⟨rfl, rfl⟩ | ⟨g, cap, cur, rfl, _, _, hc, _⟩
  · exact ⟨none, 0, rfl, by omega, .of_own h⟩
  · exact ⟨_, cap, rfl, hc, .of_own h⟩
theorem own_row {w : World} {base : Nat} {e : TypeId} {size n m c : Nat} {A : Option Addr} {xs : List Value} (h : w.ownsRow base e size (.slice A m c) n xs) : Row w w.heap.size A xs := by
  obtain ⟨A1, c1, hv, _, hr⟩ := own_form h
  cases hv
  exact hr
/-- append(s, t...), rows of numbers -/
theorem wpList_appU {ops : Array Oper} {rest : List Oper} {o : Oper} {a : Act} {Q : Exit → Act → World → Prop} (B : Nat) (W : World) (hgd : o.guard = none) (s x : Operand)
    (ho : o.op = .call { callee := .builtin .append, args := #[s, x], argTypes := #[51, 51] })
    (v : Value) (n m : Nat) (xs ys : List Nat) (hs : a.eval s = v) (hown : W.ownsRow B 22 1 v n (cu xs)) (hB : B ≤ W.heap.size) (A : Option Addr) (k c : Nat)
    (hx : a.eval x = .slice A k c) (hk : ys.length = k) (hr : Row W W.heap.size A (cu ys)) (hm : n + k = m) (hm2 : m ≤ 1000)
    (h : ∀ A' c' w', w'.ownsRow B 22 1 (.slice A' m c') m (cu (xs ++ ys)) → Below B W w' → wpList Tryd.prog ops Q rest (a.put o.dst (.slice A' m c')) w') :
    wpList Tryd.prog ops Q (o :: rest) a W := by
  subst hm
  obtain ⟨i0, hi, hz0, hz1, hz2⟩ := info_split info_u
  refine wpList_append_row _ hgd s x 51 ho B 22 i0 (.int .u16 0) 1 2 Tryd.underlying51 hi hz0 hz1 hz2 rfl (Nat.zero_lt_succ 0) v n (cu xs) hs hown W.heap.size A k c (cu ys) hx (by rw [cu_len, hk, Nat.mul_one]) hr (one_cu ys) (by unfold maxLen; omega) (by omega) hB ?_
  intro v' w' hO hg
  have hB2 := (Below.refl B W).grown hg hB (fun j e => (hown.lt j e).1)
  obtain ⟨A', c', rfl, _, _⟩ := own_form hO
  exact h A' c' w' (by rw [cu_app]; exact hO) hB2
/-- what is left, read behind what is there -/
def gos (emb : Bool) (xs : List Nat) (r : List UInt8) : Option (List Nat) := match rd emb (spl r) with
  | some y => if xs.length + y.length ≤ 8 then some (xs ++ y) else none
  | none => none
theorem rdt_nil (emb : Bool) : rdt emb [] = some [] := rfl
theorem rdt_gos {emb : Bool} {l : List UInt8} (h : l ≠ []) : rdt emb l = gos emb [] l := by
  unfold rdt gos prt
  rw [if_neg h]
  cases rd emb (spl l) with
  | none => rfl
  | some y => simp
/-- the last part -/
theorem gos_last {emb : Bool} {xs : List Nat} {r : List UInt8} (h : cutg [58] r = none) : gos emb xs r = match rd emb [r] with | some y => if xs.length + y.length ≤ 8 then some (xs ++ y) else none | none => none := by
  unfold gos
  rw [spl_one r (cut1_mem h)]
theorem rd_pos {emb : Bool} : ∀ {ps : List (List UInt8)} {y : List Nat}, ps ≠ [] → rd emb ps = some y → 1 ≤ y.length
  | [], _, h, _ => absurd rfl h
  | [p], y, _, h => by
    rw [rd] at h
    split at h
    · obtain ⟨a, b, c, d, _, _, rfl, _⟩ := four_some h; simp
    · obtain ⟨a, _, rfl⟩ := Option.map_eq_some_iff.1 h; simp
  | p :: q :: r, y, _, h => by
    rw [rd] at h
    obtain ⟨a, _, h⟩ := Option.bind_eq_some_iff.1 h
    obtain ⟨l, _, rfl⟩ := Option.map_eq_some_iff.1 h
    simp
theorem gos_more {emb : Bool} {xs : List Nat} {r : List UInt8} {p : List UInt8 × List UInt8} (h : cutg [58] r = some p) : gos emb xs r = match rd false [p.1] with | some y => if xs.length + y.length ≤ 8 then gos emb (xs ++ y) p.2 else none | none => none := by
  obtain ⟨h1, h2⟩ := cut1_some h
  unfold gos
  rw [h1, spl_app _ _ h2]
  obtain ⟨q, t, hq⟩ : ∃ q t, spl p.2 = q :: t := by
    cases hs : spl p.2 with
    | nil => exact absurd hs (spl_ne _)
    | cons q t => exact ⟨q, t, rfl⟩
  rw [hq, rd, rd, if_neg (by rintro ⟨e, _⟩; cases e)]
  cases hp : pce p.1 with
  | none => rfl
  | some a =>
    rw [Option.bind_some, Option.map_some]
    simp only
    cases hr : rd emb (q :: t) with
    | none => simp
    | some y =>
      have := rd_pos (by simp) hr
      rw [Option.map_some]
      simp only [List.length_cons, List.length_append, List.length_nil, List.append_assoc, List.cons_append, List.nil_append]
      by_cases h8 : xs.length + (y.length + 1) ≤ 8
      · rw [if_pos h8, if_pos (by omega), if_pos (by omega)]
      · rw [if_neg h8]
        split
        · rw [if_neg (by omega)]
        · rfl
theorem rd_one_len {emb : Bool} {p : List UInt8} {y : List Nat} (h : rd emb [p] = some y) : 1 ≤ y.length ∧ y.length ≤ 2 := by
  refine ⟨rd_pos (by simp) h, ?_⟩
  rw [rd] at h
  split at h
  · obtain ⟨a, b, c, d, _, _, rfl, _⟩ := four_some h; simp
  · obtain ⟨a, _, rfl⟩ := Option.map_eq_some_iff.1 h; simp
/-- a row in memory that is not older -/
def FRow (w : World) (m : Nat) (A : Option Addr) (xs : List Value) : Prop := xs = [] ∨ ∃ b, A = some ⟨b, 0, none⟩ ∧ (m ≤ b ∧ b < w.heap.size) ∧ ∀ k, k < xs.length → w.cell? ⟨b, k, none⟩ = xs[k]?
theorem FRow.of_own {w : World} {m : Nat} {A : Option Addr} {n c : Nat} {xs : List Nat} (h : w.ownsRow m 22 1 (.slice A n c) n (cu xs)) (hn : xs.length = n) : FRow w m A (cu xs) := by
  have h0 := h
  rcases h.2 with ⟨hv, h2⟩ | ⟨g, cap, cur, hv, hb, hg, _, _, _, _⟩
  · subst h2
    obtain rfl : xs = [] := List.eq_nil_of_length_eq_zero hn
    exact .inl rfl
  · injection hv with h1 _ h3
    subst h1 h3
    exact .inr ⟨g, rfl, ⟨hb, (Array.getElem?_eq_some_iff.1 hg).1⟩, fun k hk => h0.cellAt k (by rw [cu_len] at hk; omega)⟩
theorem FRow.keep {w w' : World} {m : Nat} {A : Option Addr} {xs : List Value} (h : FRow w m A xs) (hs : w.heap.size ≤ w'.heap.size) (hk : ∀ b, m ≤ b → b < w.heap.size → w'.heap[b]? = w.heap[b]?) : FRow w' m A xs := by
  rcases h with h | ⟨b, hA, ⟨h1, h2⟩, hc⟩
  · exact .inl h
  · refine .inr ⟨b, hA, ⟨h1, by omega⟩, fun k hkl => ?_⟩
    have e := hc k hkl
    unfold World.cell? at e ⊢
    simp only at e ⊢
    rw [hk b h1 h2]
    exact e
theorem FRow.go {w w' : World} {m : Nat} {A : Option Addr} {xs : List Value} (h : FRow w m A xs) (hB : Below w.heap.size w w') : FRow w' m A xs := h.keep hB.size fun b _ hb => hB.block b hb
/-- what read tells -/
def ReadR (o : Option (List Nat)) (w : World) (e : Ending) (w' : World) : Prop :=
  (match o with | some y => ∃ A c, e = .returned (.tuple #[.slice A y.length c, .bool true]) ∧ FRow w' w.heap.size A (cu y) | none => e = .returned (.tuple #[.slice none 0 0, .bool false])) ∧ Below w.heap.size w w'
theorem readR_none {o : Option (List Nat)} {w w' : World} (h : o = none) (hB : Below w.heap.size w w') : ReadR o w (.returned (.tuple #[.slice none 0 0, .bool false])) w' := by subst h; exact ⟨rfl, hB⟩
theorem readR_some {o : Option (List Nat)} {y : List Nat} {A : Option Addr} {n c : Nat} {w w' : World} (h : o = some y) (hn : y.length = n) (hr : FRow w' w.heap.size A (cu y)) (hB : Below w.heap.size w w') : ReadR o w (.returned (.tuple #[.slice A n c, .bool true])) w' := by subst h; subst hn; exact ⟨⟨A, c, rfl, hr⟩, hB⟩
def mv (more : Bool) (n : Nat) : Nat := if more = true then n + 1 else 0
set_option maxRecDepth 100000 in
set_option maxHeartbeats 2000000 in
theorem read_any (s : ByteArray) (q : Bool) (hs : s.size ≤ 1000000) (w : World) (hE : Env w) : Calls Tryd.prog 27 #[.string s, .bool q] w (ReadR (rdt q (dl s)) w) := by
  have HE := Lib.hid (fun w' (hB : Below w.heap.size w w') => hE.go hB)
  obtain ⟨m, hm⟩ : ∃ m, (!s.toList.isEmpty) = m := ⟨_, rfl⟩
  have hne : s.toList.isEmpty = !m := by rw [← hm]; simp
  have HST : Hid ((m = true → rdt q (dl s) = gos q [] (dl s)) ∧ (m = false → rdt q (dl s) = some [])) := Lib.hid (by
    have e : s.toList = dl s := ByteArray.toList_eq s
    rw [e] at hm
    subst hm
    refine ⟨fun h => rdt_gos fun h0 => ?_, fun h => ?_⟩
    · rw [h0] at h; cases h
    · have : dl s = [] := by simpa using h
      rw [this]
      rfl)
  obtain ⟨T, hT⟩ : ∃ T, rdt q (dl s) = T := ⟨_, rfl⟩
  rw [hT] at HST ⊢
  have HSZ := Lib.hid hs
  clear hE hm hT hs
  go_enter Tryd.func27, Tryd.ntmps27
  go_wp2_with fail
  go_loopg [0, 6, 7] (s.size + 1) (fun g s0 s6 s7 wr => ∃ (rest : ByteArray) (xs : List Nat) (A : Option Addr) (c n : Nat) (more : Bool), s0 = .string rest ∧ s6 = .slice A n c ∧ s7 = .bool more ∧ mv more rest.size ≤ g ∧ Hid (xs.length = n) ∧ n ≤ 8 ∧ Hid (rest.size ≤ 1000000) ∧ Hid ((more = true → T = gos q xs (dl rest)) ∧ (more = false → T = some xs)) ∧ Hid (wr.ownsRow w.heap.size 22 1 (.slice A n c) n (cu xs)) ∧ Hid (Below w.heap.size w wr))
  case atStart => exact ⟨s, [], none, 0, 0, m, rfl, rfl, rfl, by unfold mv; split <;> omega, Lib.hid rfl, Nat.zero_le _, HSZ, HST, Lib.hid (World.ownsRow_nil _ _ _ _), Lib.hid (Below.refl _ _)⟩
  case round =>
    clear hne HST
    obtain ⟨rest, xs, A, c, n, more, rfl, rfl, rfl, hg, HN, hn8, HRS, HT, HO, HB⟩ := hrel
    cases more with
    | false =>
      have HR := Lib.hid (FRow.of_own HO.out HN.out)
      have HTF := Lib.hid (HT.out.2 rfl)
      clear HT
      go_wp2_with fail
      go_ret2
      exact readR_some HTF.out HN.out HR.out HB.out
    | true =>
      have HG : Hid (rest.size + 1 ≤ gk) := Lib.hid hg
      have HC := Lib.hid (Cut_any rest ⟨#[58]⟩ (by simp [dl]) HRS.out wr (HE.out _ HB.out))
      have HTT := Lib.hid (HT.out.1 rfl)
      clear hg HT
      cases hc : cutg (dl ⟨#[58]⟩) (dl rest) with
      | none =>
        rw [hc] at HC
        have hl := gos_last (emb := q) (xs := xs) (r := dl rest) hc
        rw [← HTT.out] at hl
        have HP := Lib.hid (fun W (hB : Below wr.heap.size wr W) => pieces_any rest q HRS.out W (HE.out _ (HB.out.trans (hB.mono HB.out.size))))
        have HY := Lib.hid (fun y h => rd_one_len (emb := q) (p := dl rest) (y := y) h)
        obtain ⟨o, ho⟩ : ∃ o, rd q [dl rest] = o := ⟨_, rfl⟩
        rw [ho] at HP HY hl
        have HL := Lib.hid hl
        clear hc ho hl HTT
        cases q
        all_goals
          go_upto_region 6 with (first | (go_at_call 26; refine HC.out.mono ?_; rintro e w1 ⟨rfl, hB1⟩) | fail)
          have HP1 := Lib.hid (HP.out w1 hB1)
          have HO1 := Lib.hid (own_below HO.out hB1)
          have HB1 := Lib.hid (HB.out.trans (hB1.mono HB.out.size))
          clear hB1 HC HP
          cases o with
          | none =>
            go_wp2_with fail
            refine HP1.out.mono ?_
            rintro e w2 ⟨rfl, hB2⟩
            go_wp2_with fail
            go_ret2
            exact readR_none HL.out (upB HB1.out hB2)
          | some y =>
            have HYL := Lib.hid (HY.out y rfl)
            go_wp2_with fail
            refine HP1.out.mono ?_
            rintro e w2 ⟨⟨A2, c2, rfl, hr2⟩, hB2⟩
            obtain ⟨ny, hny⟩ : ∃ ny, y.length = ny := ⟨_, rfl⟩
            have hy1 : 1 ≤ ny := by rw [← hny]; exact HYL.out.1
            have hy2 : ny ≤ 2 := by rw [← hny]; exact HYL.out.2
            rw [hny]
            have HNY := Lib.hid hny
            have HO2 := Lib.hid (own_below HO1.out hB2)
            have HB2 := Lib.hid (upB HB1.out hB2)
            have HR2 := Lib.hid hr2
            have hy0 : ((ny : Int) == 0) = false := by rw [beq_eq_false_iff_ne]; omega
            clear hny hB2 hr2
            by_cases h8 : n + ny ≤ 8
            · have h8z : decide ((8 : Int) < (n : Int) + (ny : Int)) = false := decide_eq_false (by omega)
              have HT2 : Hid (T = some (xs ++ y)) := Lib.hid (by rw [HL.out]; first | rw [HN.out, HNY.out, if_pos h8] | (simp only; rw [HN.out, HNY.out, if_pos h8]))
              obtain ⟨m, hm⟩ : ∃ m, n + ny = m := ⟨_, rfl⟩
              have HM := Lib.hid hm
              have hm8 : m ≤ 8 := by omega
              clear hm h8 HL
              go_wp2_with (first | (at_builtin; refine wpList_appU w.heap.size w2 rfl _ _ rfl (.slice A n c) n m xs y rfl HO2.out HB2.out.size A2 ny c2 rfl HNY.out HR2.out HM.out (by omega) ?_; intro A3 c3 w3 hO3 hB3) | fail)
              go_roundg 0
              case measure => have := HG.out; omega
              case rel => exact ⟨_, xs ++ y, A3, c3, m, false, rfl, rfl, rfl, Nat.le_refl _, Lib.hid (by rw [List.length_append, HN.out, HNY.out, HM.out]), hm8, Lib.hid (by decide), Lib.hid ⟨(fun h => by cases h), fun _ => HT2.out⟩, Lib.hid hO3, Lib.hid (HB2.out.trans hB3)⟩
            · have h8z : decide ((8 : Int) < (n : Int) + (ny : Int)) = true := decide_eq_true (by omega)
              have HT2 : Hid (T = none) := Lib.hid (by rw [HL.out]; first | rw [HN.out, HNY.out, if_neg h8] | (simp only; rw [HN.out, HNY.out, if_neg h8]))
              clear h8 HL
              go_wp2_with fail
              go_ret2
              exact readR_none HT2.out HB2.out
      | some p =>
        rw [hc] at HC
        have hl := gos_more (emb := q) (xs := xs) hc
        rw [← HTT.out] at hl
        have HLE : Hid (p.1.length + p.2.length + 1 ≤ rest.size) := Lib.hid (by
          have := congrArg List.length (cut1_some hc).1
          rw [List.length_append, List.length_cons, len_dl] at this
          omega)
        have HP := Lib.hid (fun W (hB : Below wr.heap.size wr W) => pieces_any (bs p.1) false (by rw [bs_size]; have := HLE.out; have := HRS.out; omega) W (HE.out _ (HB.out.trans (hB.mono HB.out.size))))
        rw [show dl (bs p.1) = p.1 from bs_data _] at HP
        have HY := Lib.hid (fun y h => rd_one_len (emb := false) (p := p.1) (y := y) h)
        obtain ⟨o, ho⟩ : ∃ o, rd false [p.1] = o := ⟨_, rfl⟩
        rw [ho] at HP HY hl
        obtain ⟨q0, hq0⟩ : ∃ q0, q0 = q := ⟨_, rfl⟩
        rw [← hq0] at hl
        have HL := Lib.hid hl
        have HQ0 := Lib.hid hq0
        clear hc ho hl HTT hq0
        cases q
        all_goals
          go_upto_region 6 with (first | (go_at_call 26; refine HC.out.mono ?_; rintro e w1 ⟨rfl, hB1⟩) | fail)
          have HP1 := Lib.hid (HP.out w1 hB1)
          have HO1 := Lib.hid (own_below HO.out hB1)
          have HB1 := Lib.hid (HB.out.trans (hB1.mono HB.out.size))
          clear hB1 HC HP
          cases o with
          | none =>
            go_wp2_with fail
            refine HP1.out.mono ?_
            rintro e w2 ⟨rfl, hB2⟩
            go_wp2_with fail
            go_ret2
            exact readR_none HL.out (upB HB1.out hB2)
          | some y =>
            have HYL := Lib.hid (HY.out y rfl)
            go_wp2_with fail
            refine HP1.out.mono ?_
            rintro e w2 ⟨⟨A2, c2, rfl, hr2⟩, hB2⟩
            obtain ⟨ny, hny⟩ : ∃ ny, y.length = ny := ⟨_, rfl⟩
            have hy1 : 1 ≤ ny := by rw [← hny]; exact HYL.out.1
            have hy2 : ny ≤ 2 := by rw [← hny]; exact HYL.out.2
            rw [hny]
            have HNY := Lib.hid hny
            have HO2 := Lib.hid (own_below HO1.out hB2)
            have HB2 := Lib.hid (upB HB1.out hB2)
            have HR2 := Lib.hid hr2
            have hy0 : ((ny : Int) == 0) = false := by rw [beq_eq_false_iff_ne]; omega
            clear hny hB2 hr2
            by_cases h8 : n + ny ≤ 8
            · have h8z : decide ((8 : Int) < (n : Int) + (ny : Int)) = false := decide_eq_false (by omega)
              have HT2 : Hid (T = gos q0 (xs ++ y) p.2) := Lib.hid (by rw [HL.out]; first | rw [HN.out, HNY.out, if_pos h8] | (simp only; rw [HN.out, HNY.out, if_pos h8]))
              obtain ⟨m, hm⟩ : ∃ m, n + ny = m := ⟨_, rfl⟩
              have HM := Lib.hid hm
              have hm8 : m ≤ 8 := by omega
              clear hm h8 HL
              go_wp2_with (first | (at_builtin; refine wpList_appU w.heap.size w2 rfl _ _ rfl (.slice A n c) n m xs y rfl HO2.out HB2.out.size A2 ny c2 rfl HNY.out HR2.out HM.out (by omega) ?_; intro A3 c3 w3 hO3 hB3) | fail)
              go_roundg (p.2.length + 1)
              case measure => have := HG.out; have := HLE.out; omega
              case rel => exact ⟨bs p.2, xs ++ y, A3, c3, m, true, rfl, rfl, rfl, (by unfold mv; rw [if_pos rfl, bs_size]; exact Nat.le_refl _), Lib.hid (by rw [List.length_append, HN.out, HNY.out, HM.out]), hm8, Lib.hid (by rw [bs_size]; have := HLE.out; have := HRS.out; omega), Lib.hid ⟨fun _ => by rw [show dl (bs p.2) = p.2 from bs_data _, ← HQ0.out]; exact HT2.out, (fun h => by cases h)⟩, Lib.hid hO3, Lib.hid (HB2.out.trans hB3)⟩
            · have h8z : decide ((8 : Int) < (n : Int) + (ny : Int)) = true := decide_eq_true (by omega)
              have HT2 : Hid (T = none) := Lib.hid (by rw [HL.out]; first | rw [HN.out, HNY.out, if_neg h8] | (simp only; rw [HN.out, HNY.out, if_neg h8]))
              clear h8 HL
              go_wp2_with fail
              go_ret2
              exact readR_none HT2.out HB2.out
end Go.Proofs.YtcoppicieicikaaDoor.Sx
