/-
  six: Parse.
-/
import Derived.Test.YtcoppicieicikaaDoorSixF
namespace Go.Proofs.YtcoppicieicikaaDoor.Sx
open Go.RowKit Go.Shelf

/-- what two rows of pieces make -/
def fin (short : Bool) (x y : List Nat) : Option (List Nat) := if x.length + y.length ≤ 8 ∧ (short = true ↔ x.length + y.length ≠ 8) then some (x ++ List.replicate (8 - x.length - y.length) 0 ++ y) else none
def prsP (short : Bool) (a b : List UInt8) : Option (List Nat) := (rdt (!short) a).bind fun x => (rdt true b).bind fun y => fin short x y
theorem prs_whole' (l : List UInt8) (h : cutg [58, 58] l = none) : prs l = prsP false l [] := by
  unfold prs prsP
  rw [h, rdt_nil]
  simp only [Bool.not_false, Option.bind_some]
  cases hr : rdt true l with
  | none => rfl
  | some x =>
    simp only [Option.bind_some]
    unfold fin
    simp only [List.length_nil, Nat.add_zero]
    by_cases h8 : x.length = 8
    · rw [if_pos h8, if_pos ⟨by omega, by simp [h8]⟩]
      simp [h8]
    · rw [if_neg h8, if_neg]
      rintro ⟨_, h⟩
      simp at h
      exact h8 h
theorem prs_short' (l : List UInt8) (p : List UInt8 × List UInt8) (h : cutg [58, 58] l = some p) : prs l = prsP true p.1 p.2 := by
  unfold prs prsP
  rw [h]
  simp only [Bool.not_true]
  cases h1 : rdt false p.1 with
  | none => rfl
  | some x =>
    cases h2 : rdt true p.2 with
    | none => rfl
    | some y =>
      simp only [Option.bind_some]
      unfold fin
      by_cases h8 : x.length + y.length < 8
      · rw [if_pos h8, if_pos ⟨by omega, by simp; omega⟩]
      · rw [if_neg h8, if_neg]
        rintro ⟨h3, h4⟩
        have := h4.1 rfl
        omega
theorem fin_len {short : Bool} {x y z : List Nat} (h : fin short x y = some z) : z.length = 8 := by
  unfold fin at h
  split at h
  · obtain rfl := Option.some.inj h
    simp
    omega
  · cases h
theorem fin_yes {short : Bool} {x y : List Nat} {n1 n2 : Nat} (h1 : x.length = n1) (h2 : y.length = n2) (h : n1 + n2 ≤ 8) (hs : short = true ↔ n1 + n2 ≠ 8) : fin short x y = some (x ++ List.replicate (8 - n1 - n2) 0 ++ y) := by
  subst h1 h2
  unfold fin
  rw [if_pos ⟨h, hs⟩]
theorem fin_no {short : Bool} {x y : List Nat} {n1 n2 : Nat} (h1 : x.length = n1) (h2 : y.length = n2) (h : ¬ (n1 + n2 ≤ 8 ∧ (short = true ↔ n1 + n2 ≠ 8))) : fin short x y = none := by
  subst h1 h2
  unfold fin
  rw [if_neg h]
/-- what Parse tells -/
def ParR (o : Option (List Nat)) (w : World) (e : Ending) (w' : World) : Prop :=
  (match o with | some y => e = .returned (.tuple #[av y, .int .i64 0]) | none => e = .returned (.tuple #[av z8, .int .i64 31])) ∧ Below w.heap.size w w'
theorem results_two {P : Program} {fn : Func} {k u : Tmp} {t : TypeId} {tmps : Array Value} {w : World} {a : Addr} {v x : Value} (h : fn.results = #[.cell k t, .tmp u]) (hp : tmps.getD k undef = .pointer (some a)) (hl : (loadVar t a).run P w = .ok v w) (hu : tmps.getD u undef = x) : (results fn tmps).run P w = .ok (.tuple #[v, x]) w := by
  rw [Array.getD_eq_getD_getElem?] at hp hu
  simp [results, h]
  rw [hp]
  simp [asAddr, hl, hu]
/-- a store of eight numbers: the world behind it under a letter -/
theorem store8 {ops : Array Oper} {rest : List Oper} {op : Oper} {a : Act} {w : World} {Q : Exit → Act → World → Prop} (hgd : op.guard = none) (x y : Operand) (ho : op.op = .store 23 x y)
    (b : Nat) (z v : List Nat) (hx : a.eval x = .pointer (some ⟨b, 0, none⟩)) (hy : a.eval y = .agg (cu v).toArray) (hz : Hx w b z) (hz8 : z.length = 8) (hv8 : v.length = 8)
    (h : ∀ w', (loadVar 23 ⟨b, 0, none⟩).run Tryd.prog w' = .ok (av v) w' → Below b w w' → wpList Tryd.prog ops Q rest (a.put op.dst undef) w') : wpList Tryd.prog ops Q (op :: rest) a w := by
  refine wpList_store_mid hgd 23 x y ho b 0 (cu v).toArray hx hy (hz.there (by omega)) (info_ofA hv8) (oneA v) ?_
  exact h _ (load_set hz hz8 hv8) (below_setCells (Nat.le_refl _) _ _ _ (Below.refl _ _))
theorem Hx.stored {w : World} {b : Nat} {z v : List Nat} (hz : Hx w b z) (hz8 : z.length = 8) (hv8 : v.length = 8) : (w.setCells b 0 (cu v)).rangeAt b 0 (cu v) :=
  World.rangeAt_setCells_same w b 0 _ (by have := hz.there (y := v) (by omega); rwa [List.size_toArray] at this)
theorem setRow_cells {w : World} {b : Nat} {z : List Nat} (v : List Nat) (hz : Hx w b z) (hz8 : z.length = 8) (hv8 : v.length = 8) : Hx (w.setCells b 0 (cu v)) b v := by
  have key : ∀ (vs : List Value) (pre : List Value) (w : World) (rest : List Value), w.heap[b]? = some (.cells (pre ++ rest).toArray 23 (0, 0)) → rest.length = vs.length → (w.setCells b pre.length vs).heap[b]? = some (.cells (pre ++ vs).toArray 23 (0, 0)) := by
    intro vs
    induction vs with
    | nil =>
      intro pre w rest h hl
      obtain rfl : rest = [] := List.eq_nil_of_length_eq_zero hl
      exact h
    | cons u vs ih =>
      intro pre w rest h hl
      obtain ⟨r, rest, rfl⟩ : ∃ r t, rest = r :: t := by
        cases rest with
        | nil => simp at hl
        | cons r t => exact ⟨r, t, rfl⟩
      rw [World.setCells]
      have h2 : (w.setCell ⟨b, pre.length, none⟩ u).heap[b]? = some (.cells ((pre ++ [u]) ++ rest).toArray 23 (0, 0)) := by
        simp only [World.setCell, Array.getElem?_modify, if_true, h, Option.map_some]
        congr 2
        simp
      have := ih (pre ++ [u]) _ rest h2 (by simpa using hl)
      rw [List.length_append, List.length_singleton, List.append_assoc] at this
      exact this
  exact key (cu v) [] w (cu z) hz (by rw [cu_len, cu_len]; omega)
/-- a store of eight numbers, and where they lie then -/
theorem store8x {ops : Array Oper} {rest : List Oper} {op : Oper} {a : Act} {w : World} {Q : Exit → Act → World → Prop} (hgd : op.guard = none) (x y : Operand) (ho : op.op = .store 23 x y)
    (b : Nat) (z v : List Nat) (hx : a.eval x = .pointer (some ⟨b, 0, none⟩)) (hy : a.eval y = .agg (cu v).toArray) (hz : Hx w b z) (hz8 : z.length = 8) (hv8 : v.length = 8)
    (h : ∀ w', Hx w' b v → Below b w w' → wpList Tryd.prog ops Q rest (a.put op.dst undef) w') : wpList Tryd.prog ops Q (op :: rest) a w := by
  refine wpList_store_mid hgd 23 x y ho b 0 (cu v).toArray hx hy (hz.there (by omega)) (info_ofA hv8) (oneA v) ?_
  exact h _ (setRow_cells v hz hz8 hv8) (below_setCells (Nat.le_refl _) _ _ _ (Below.refl _ _))
theorem parR_none {o : Option (List Nat)} {w w' : World} (h : o = none) (hB : Below w.heap.size w w') : ParR o w (.returned (.tuple #[av z8, .int .i64 31])) w' := by subst h; exact ⟨rfl, hB⟩
theorem parR_some {o : Option (List Nat)} {y : List Nat} {w w' : World} (h : o = some y) (hB : Below w.heap.size w w') : ParR o w (.returned (.tuple #[av y, .int .i64 0])) w' := by subst h; exact ⟨rfl, hB⟩
/-- copy into a row of one's own: all else stays -/
theorem wpList_copy8 {w : World} {ops : Array Oper} {rest : List Oper} {o : Oper} {a : Act} {Q : Exit → Act → World → Prop} (hgd : o.guard = none) (d s : Operand)
    (ho : o.op = .call { callee := .builtin .copy, args := #[d, s], argTypes := #[51, 51] })
    (dp sp : Option Addr) (dLen dCap sLen sCap : Nat) (hd : a.eval d = .slice dp dLen dCap) (hs : a.eval s = .slice sp sLen sCap)
    (g k : Nat) (cur : List Value) (hg : w.heap[g]? = some (.cells cur.toArray 23 (0, 0))) (cs : List Value) (hn : cs.length = Nat.min sLen dLen) (m : Nat)
    (hdp : 0 < cs.length → dp = some ⟨g, k, none⟩) (hsp : FRow w m sp cs) (hfit : k + cs.length ≤ cur.length) (h1 : ∀ v ∈ cs, v.oneCell' = true)
    (h : ∀ w', w'.heap[g]? = some (.cells (splice cur k cs).toArray 23 (0, 0)) → w'.heap.size = w.heap.size → (∀ b, b ≠ g → w'.heap[b]? = w.heap[b]?) → Below g w w' → wpList Tryd.prog ops Q rest (a.put o.dst (goInt cs.length)) w') :
    wpList Tryd.prog ops Q (o :: rest) a w := by
  by_cases h0 : cs.length = 0
  · obtain rfl : cs = [] := List.eq_nil_of_length_eq_zero h0
    refine wpList_copy_nothing hgd d s 51 51 ho 22 Tryd.underlying51 info16 dp sp dLen dCap sLen sCap hd hs (by simpa using hn.symm) ?_
    exact h w (by simpa [splice] using hg) rfl (fun _ _ => rfl) (Below.refl _ _)
  · obtain rfl := hdp (by omega)
    rcases hsp with rfl | ⟨b, rfl, ⟨_, _⟩, hc⟩
    · exact absurd rfl h0
    · refine wpList_copy_own hgd d s 51 51 ho 22 Tryd.underlying51 info16 g k dLen dCap ⟨b, 0, none⟩ sLen sCap hd hs cur.toArray 23 hg cs hn (fun j v hj => ?_) (by simpa using hfit) h1 ?_
      · rw [Lib.add_plain, Nat.zero_add, hc j (List.getElem?_eq_some_iff.1 hj).1]
        exact hj
      · exact h _ (by simpa [splice] using setRow_heap w g _ _ 23 _ hg) (by simp [World.setRow]) (fun b hb => setRow_other w g b _ hb) (below_setRow (Below.refl _ _) (Nat.le_refl _) _)
theorem fin_splice {x y : List Nat} {n1 n2 k2 : Nat} (h1 : x.length = n1) (h2 : y.length = n2) (hk : n2 + k2 = 8) (h8 : n1 ≤ k2) : splice (splice (cu z8) 0 (cu x)) k2 (cu y) = cu (x ++ List.replicate (8 - n1 - n2) 0 ++ y) := by
  have hz : cu z8 = List.replicate 8 (.int .u16 0) := rfl
  have hr : ∀ m, cu (List.replicate m 0) = List.replicate m (.int .u16 0) := fun m => by simp [cu]
  have hx : (cu x).length = n1 := by rw [cu_len, h1]
  have hy : (cu y).length = n2 := by rw [cu_len, h2]
  have e1 : splice (cu z8) 0 (cu x) = cu x ++ List.replicate (8 - n1) (.int .u16 0) := by
    unfold splice
    rw [hx, hz, List.drop_replicate]
    simp
  rw [e1]
  unfold splice
  rw [hy, cu_app, cu_app, hr, List.take_append, hx, List.take_of_length_le (by omega), List.take_replicate, List.drop_of_length_le (by rw [List.length_append, hx, List.length_replicate]; omega), List.append_nil, show min (k2 - n1) (8 - n1) = 8 - n1 - n2 by omega]
set_option maxRecDepth 100000 in
set_option maxHeartbeats 4000000 in
theorem Parse_any (s : ByteArray) (hs : s.size ≤ 1000000) (w : World) (hE : Env w) : Calls Tryd.prog 9 #[.string s] w (ParR (prs (dl s)) w) := by
  have hx0 := (Hx.new w z8).go (upA _ (.cells (cu z8).toArray 23))
  have hx1 := Hx.new (w.alloc (.cells (cu z8).toArray 23)) z8
  rw [World.size_alloc] at hx1
  have hB0 : Below w.heap.size w ((w.alloc (.cells (cu z8).toArray 23)).alloc (.cells (cu z8).toArray 23)) := (upA w _).alloc (by simp) _
  have hsz0 : ((w.alloc (.cells (cu z8).toArray 23)).alloc (.cells (cu z8).toArray 23)).heap.size = w.heap.size + 2 := by simp
  have ez : (cu z8).toArray = #[.int .u16 0, .int .u16 0, .int .u16 0, .int .u16 0, .int .u16 0, .int .u16 0, .int .u16 0, .int .u16 0] := rfl
  rw [ez] at hx0 hx1 hB0 hsz0
  obtain ⟨w1, hw1⟩ : ∃ w1, (w.alloc (.cells #[.int .u16 0, .int .u16 0, .int .u16 0, .int .u16 0, .int .u16 0, .int .u16 0, .int .u16 0, .int .u16 0] 23)).alloc (.cells #[.int .u16 0, .int .u16 0, .int .u16 0, .int .u16 0, .int .u16 0, .int .u16 0, .int .u16 0, .int .u16 0] 23) = w1 := ⟨_, rfl⟩
  rw [hw1] at hx0 hx1 hB0 hsz0
  have HX0 := Lib.hid hx0
  have HX1 := Lib.hid hx1
  have HB0 := Lib.hid hB0
  have HSZ := Lib.hid hsz0
  have HE := Lib.hid (fun w' (hB : Below w1.heap.size w1 w') => (hE.go hB0).go hB)
  have HC := Lib.hid (Cut_any s ⟨#[58, 58]⟩ (by simp [dl]) hs w1 (hE.go hB0))
  obtain ⟨T, hT⟩ : ∃ T, prs (dl s) = T := ⟨_, rfl⟩
  rw [hT]
  have HS : Hid (∃ (front back : ByteArray) (short : Bool), (front.size ≤ 1000000 ∧ back.size ≤ 1000000) ∧ T = prsP short (dl front) (dl back) ∧ ∀ e w', CutR s (cutg (dl ⟨#[58, 58]⟩) (dl s)) w1 e w' → e = .returned (.tuple #[.string front, .string back, .bool short]) ∧ Below w1.heap.size w1 w') := Lib.hid (by
    subst hT
    cases hc : cutg (dl ⟨#[58, 58]⟩) (dl s) with
    | none => exact ⟨s, ⟨#[]⟩, false, ⟨hs, by decide⟩, prs_whole' _ hc, fun e w' h => h⟩
    | some p =>
      have := congrArg List.length (cutg_app hc)
      simp only [List.length_append] at this
      rw [len_dl] at this
      refine ⟨bs p.1, bs p.2, true, ⟨by rw [bs_size]; omega, by rw [bs_size]; omega⟩, ?_, fun e w' h => h⟩
      rw [show dl (bs p.1) = p.1 from bs_data _, show dl (bs p.2) = p.2 from bs_data _]
      exact prs_short' _ p hc)
  clear hx0 hx1 hB0 hsz0 hE hs hT ez
  go_enter Tryd.func9, Tryd.ntmps9
  go_upto_region 2 with fail
  clear hw1
  go_wp2_with fail
  refine HC.out.mono ?_
  intro e w2 hcut
  obtain ⟨front, back, short, ⟨hf, hb⟩, hT, hcr⟩ := HS.out
  obtain ⟨rfl, hB2⟩ := hcr _ _ hcut
  clear HS HC hcut hcr
  have HR2 := Lib.hid (fun W (hB : Below w1.heap.size w1 W) => read_any back true hb W (HE.out _ hB))
  have HR1 := Lib.hid (fun W (hB : Below w1.heap.size w1 W) => read_any front (!short) hf W (HE.out _ hB))
  unfold prsP at hT
  have HL1 : Hid (∀ x, rdt (!short) (dl front) = some x → x.length ≤ 8) := Lib.hid (fun x h => (rdt_some h).2)
  have HL2 : Hid (∀ x, rdt true (dl back) = some x → x.length ≤ 8) := Lib.hid (fun x h => (rdt_some h).2)
  obtain ⟨o1, ho1⟩ : ∃ o, rdt (!short) (dl front) = o := ⟨_, rfl⟩
  obtain ⟨o2, ho2⟩ : ∃ o, rdt true (dl back) = o := ⟨_, rfl⟩
  rw [ho1] at HR1 HL1 hT
  rw [ho2] at HR2 HL2 hT
  have HT := Lib.hid hT
  have HB2 := Lib.hid hB2
  clear ho1 ho2 hf hb hT hB2
  cases short with
  | false =>
    simp only [Bool.not_false] at HR1
    go_wp2_with fail
    refine (HR1.out _ HB2.out).mono ?_
    rintro e w3 ⟨h1, hB3⟩
    have HB3 := Lib.hid (HB2.out.trans (hB3.mono HB2.out.size))
    cases o1 with
    | none =>
      obtain rfl := h1
      have HTN : Hid (T = none) := Lib.hid HT.out
      clear hB3
      go_wp2_with fail
      refine (HR2.out _ HB3.out).mono ?_
      rintro e w4 ⟨h2, hB4⟩
      have HB4 := Lib.hid (HB3.out.trans (hB4.mono HB3.out.size))
      clear hB4
      cases o2 with
      | none =>
        obtain rfl := h2
        have hx0' : Hx w4 w.heap.size z8 := HX0.out.gob (by have := HSZ.out; omega) HB4.out
        have HBF := Lib.hid (HB0.out.trans ((HB4.out : Below w1.heap.size w1 w4).mono HB0.out.size))
        go_wp2_with (first | (refine store8 rfl _ _ rfl _ z8 z8 rfl rfl hx0' rfl rfl ?_; intro wX hld hbX) | fail)
        refine bodyPost_ret (v := .tuple #[av z8, .int .i64 31]) ?_ rfl ?_
        case refine_1 => exact results_two (u := 3) Tryd.results9 rfl hld rfl
        exact parR_none HTN.out (HBF.out.trans hbX)
      | some y =>
        obtain ⟨A2, c2, rfl, hr2⟩ := h2
        obtain ⟨n2, hn2⟩ : ∃ n, y.length = n := ⟨_, rfl⟩
        rw [hn2]
        clear hn2 hr2
        have hx0' : Hx w4 w.heap.size z8 := HX0.out.gob (by have := HSZ.out; omega) HB4.out
        have HBF := Lib.hid (HB0.out.trans ((HB4.out : Below w1.heap.size w1 w4).mono HB0.out.size))
        go_wp2_with (first | (refine store8 rfl _ _ rfl _ z8 z8 rfl rfl hx0' rfl rfl ?_; intro wX hld hbX) | fail)
        refine bodyPost_ret (v := .tuple #[av z8, .int .i64 31]) ?_ rfl ?_
        case refine_1 => exact results_two (u := 3) Tryd.results9 rfl hld rfl
        exact parR_none HTN.out (HBF.out.trans hbX)
    | some x =>
      obtain ⟨A1, c1, rfl, hr1⟩ := h1
      obtain ⟨n1, hn1⟩ : ∃ n, x.length = n := ⟨_, rfl⟩
      rw [hn1]
      have hn18 : n1 ≤ 8 := by rw [← hn1]; exact HL1.out x rfl
      have HN1 := Lib.hid hn1
      have HF1 := Lib.hid hr1
      have HS2 := Lib.hid HB2.out.size
      clear hn1 hr1 hB3 HL1
      go_wp2_with fail
      refine (HR2.out _ HB3.out).mono ?_
      rintro e w4 ⟨h2, hB4⟩
      have HF1' := Lib.hid (HF1.out.go hB4)
      have HB4 := Lib.hid (HB3.out.trans (hB4.mono HB3.out.size))
      have HS3 := Lib.hid HB3.out.size
      clear hB4
      cases o2 with
      | none =>
        obtain rfl := h2
        have HTN : Hid (T = none) := Lib.hid HT.out
        have hx0' : Hx w4 w.heap.size z8 := HX0.out.gob (by have := HSZ.out; omega) HB4.out
        have HBF := Lib.hid (HB0.out.trans ((HB4.out : Below w1.heap.size w1 w4).mono HB0.out.size))
        go_wp2_with (first | (refine store8 rfl _ _ rfl _ z8 z8 rfl rfl hx0' rfl rfl ?_; intro wX hld hbX) | fail)
        refine bodyPost_ret (v := .tuple #[av z8, .int .i64 31]) ?_ rfl ?_
        case refine_1 => exact results_two (u := 3) Tryd.results9 rfl hld rfl
        exact parR_none HTN.out (HBF.out.trans hbX)
      | some y =>
        obtain ⟨A2, c2, rfl, hr2⟩ := h2
        obtain ⟨n2, hn2⟩ : ∃ n, y.length = n := ⟨_, rfl⟩
        rw [hn2]
        have hn28 : n2 ≤ 8 := by rw [← hn2]; exact HL2.out y rfl
        have HN2 := Lib.hid hn2
        have HF2 := Lib.hid hr2
        have HTF : Hid (T = fin _ x y) := Lib.hid HT.out
        clear hn2 hr2 HL2 HT
        by_cases h9 : 8 < n1 + n2
        · have h9z : decide ((8 : Int) < (n1 : Int) + (n2 : Int)) = true := decide_eq_true (by omega)
          have HTN : Hid (T = none) := Lib.hid (HTF.out.trans (fin_no HN1.out HN2.out (by omega)))
          clear h9
          have hx0' : Hx w4 w.heap.size z8 := HX0.out.gob (by have := HSZ.out; omega) HB4.out
          have HBF := Lib.hid (HB0.out.trans ((HB4.out : Below w1.heap.size w1 w4).mono HB0.out.size))
          go_wp2_with (first | (refine store8 rfl _ _ rfl _ z8 z8 rfl rfl hx0' rfl rfl ?_; intro wX hld hbX) | fail)
          refine bodyPost_ret (v := .tuple #[av z8, .int .i64 31]) ?_ rfl ?_
          case refine_1 => exact results_two (u := 3) Tryd.results9 rfl hld rfl
          exact parR_none HTN.out (HBF.out.trans hbX)
        · have h9z : decide ((8 : Int) < (n1 : Int) + (n2 : Int)) = false := decide_eq_false (by omega)
          by_cases h8 : n1 + n2 = 8
          · have h8z : ((n1 : Int) + (n2 : Int) == 8) = true := by rw [beq_iff_eq]; omega
            have HTS := Lib.hid (HTF.out.trans (fin_yes HN1.out HN2.out (by omega) (by simp; omega)))
            obtain ⟨k2, hk2⟩ : ∃ k2, n2 + k2 = 8 := ⟨8 - n2, by omega⟩
            have hk2i : (8 : Int) - (n2 : Int) = (k2 : Int) := by omega
            have HSP := Lib.hid (fin_splice HN1.out HN2.out hk2 (by omega))
            have HFL := Lib.hid (fin_len (HTF.out.symm.trans HTS.out))
            obtain ⟨R, hR⟩ : ∃ R, x ++ List.replicate (8 - n1 - n2) 0 ++ y = R := ⟨_, rfl⟩
            rw [hR] at HTS HSP HFL
            have hx0' : Hx w4 w.heap.size z8 := HX0.out.gob (by have := HSZ.out; omega) HB4.out
            have hx1' : Hx w4 (w.heap.size + 1) z8 := HX1.out.gob (by have := HSZ.out; omega) HB4.out
            have HBF := Lib.hid (HB0.out.trans ((HB4.out : Below w1.heap.size w1 w4).mono HB0.out.size))
            have hsl0 := fun W => sl_all (w.heap.size + 1) W
            have hsl2 := fun W => sl_l (w.heap.size + 1) k2 (by omega) W
            rw [show 8 - k2 = n2 by omega] at hsl2
            have HOF : Hid (0 < n2 → off k2 = k2) := Lib.hid (fun h => off_lt (by omega))
            obtain ⟨o2, ho2⟩ : ∃ o, off k2 = o := ⟨_, rfl⟩
            rw [ho2] at hsl2 HOF
            have HM1 : Hid ((cu x).length = Nat.min n1 8) := Lib.hid (by rw [cu_len, HN1.out]; simp only [Nat.min_def]; split <;> omega)
            have HM2 : Hid ((cu y).length = Nat.min n2 n2) := Lib.hid (by rw [cu_len, HN2.out]; simp only [Nat.min_def]; split <;> omega)
            have HFT1 : Hid (0 + (cu x).length ≤ (cu z8).length) := Lib.hid (by rw [cu_len, HN1.out]; show 0 + n1 ≤ 8; omega)
            have HFT2 : Hid (k2 + (cu y).length ≤ (splice (cu z8) 0 (cu x)).length) := Lib.hid (by rw [length_splice _ _ _ HFT1.out, cu_len, HN2.out]; show k2 + n2 ≤ 8; omega)
            have HDP : Hid (0 < (cu y).length → (some (⟨w.heap.size + 1, o2, none⟩ : Addr)) = some ⟨w.heap.size + 1, k2, none⟩) := Lib.hid (fun h => by rw [cu_len, HN2.out] at h; rw [HOF.out h])
            have HK2 := Lib.hid hk2
            clear hk2 hR ho2
            go_upto_region 8 with fail
            go_wp2_with (first
              | (refine wpList_copy8 rfl _ _ rfl (some ⟨w.heap.size + 1, 0, none⟩) A1 8 8 n1 c1 rfl rfl (w.heap.size + 1) 0 (cu z8) hx1' (cu x) HM1.out w2.heap.size (fun _ => rfl) HF1'.out HFT1.out (one_cu x) ?_; intro w5 hg5 hs5 ho5 hb5; have HF2' := Lib.hid (HF2.out.keep (Nat.le_of_eq hs5.symm) (fun b h1 h2 => ho5 b (by have := HSZ.out; have := HS3.out; have := HB3.out.size; omega))))
              | (refine wpList_copy8 rfl _ _ rfl (some ⟨w.heap.size + 1, o2, none⟩) A2 n2 n2 n2 c2 rfl rfl (w.heap.size + 1) k2 (splice (cu z8) 0 (cu x)) hg5 (cu y) HM2.out w3.heap.size HDP.out HF2'.out HFT2.out (one_cu y) ?_; intro w6 hg6 hs6 ho6 hb6; have HX6 : Hid (Hx w6 (w.heap.size + 1) R) := Lib.hid (by rw [HSP.out] at hg6; exact hg6); have hx6 := HX6.out; have hr6 : Hx w6 w.heap.size z8 := (hx0'.gob (Nat.lt_succ_self _) hb5).gob (Nat.lt_succ_self _) hb6)
              | (refine load8 _ rfl _ rfl R hx6 HFL.out rfl ?_)
              | (refine store8 rfl _ _ rfl _ z8 R rfl rfl hr6 rfl HFL.out ?_; intro wX hld hbX)
              | fail)
            refine bodyPost_ret (v := .tuple #[av R, .int .i64 0]) ?_ rfl ?_
            case refine_1 => exact results_two (u := 3) Tryd.results9 rfl hld rfl
            exact parR_some HTS.out (HBF.out.trans (((hb5.trans hb6).mono (Nat.le_succ _)).trans hbX))
          · have h8z : ((n1 : Int) + (n2 : Int) == 8) = false := by rw [beq_eq_false_iff_ne]; omega
            have HTN : Hid (T = none) := Lib.hid (HTF.out.trans (fin_no HN1.out HN2.out (by simp; omega)))
            clear h9 h8
            have hx0' : Hx w4 w.heap.size z8 := HX0.out.gob (by have := HSZ.out; omega) HB4.out
            have HBF := Lib.hid (HB0.out.trans ((HB4.out : Below w1.heap.size w1 w4).mono HB0.out.size))
            go_wp2_with (first | (refine store8 rfl _ _ rfl _ z8 z8 rfl rfl hx0' rfl rfl ?_; intro wX hld hbX) | fail)
            refine bodyPost_ret (v := .tuple #[av z8, .int .i64 31]) ?_ rfl ?_
            case refine_1 => exact results_two (u := 3) Tryd.results9 rfl hld rfl
            exact parR_none HTN.out (HBF.out.trans hbX)
  | true =>
    simp only [Bool.not_true] at HR1
    go_wp2_with fail
    refine (HR1.out _ HB2.out).mono ?_
    rintro e w3 ⟨h1, hB3⟩
    have HB3 := Lib.hid (HB2.out.trans (hB3.mono HB2.out.size))
    cases o1 with
    | none =>
      obtain rfl := h1
      have HTN : Hid (T = none) := Lib.hid HT.out
      clear hB3
      go_wp2_with fail
      refine (HR2.out _ HB3.out).mono ?_
      rintro e w4 ⟨h2, hB4⟩
      have HB4 := Lib.hid (HB3.out.trans (hB4.mono HB3.out.size))
      clear hB4
      cases o2 with
      | none =>
        obtain rfl := h2
        have hx0' : Hx w4 w.heap.size z8 := HX0.out.gob (by have := HSZ.out; omega) HB4.out
        have HBF := Lib.hid (HB0.out.trans ((HB4.out : Below w1.heap.size w1 w4).mono HB0.out.size))
        go_wp2_with (first | (refine store8 rfl _ _ rfl _ z8 z8 rfl rfl hx0' rfl rfl ?_; intro wX hld hbX) | fail)
        refine bodyPost_ret (v := .tuple #[av z8, .int .i64 31]) ?_ rfl ?_
        case refine_1 => exact results_two (u := 3) Tryd.results9 rfl hld rfl
        exact parR_none HTN.out (HBF.out.trans hbX)
      | some y =>
        obtain ⟨A2, c2, rfl, hr2⟩ := h2
        obtain ⟨n2, hn2⟩ : ∃ n, y.length = n := ⟨_, rfl⟩
        rw [hn2]
        clear hn2 hr2
        have hx0' : Hx w4 w.heap.size z8 := HX0.out.gob (by have := HSZ.out; omega) HB4.out
        have HBF := Lib.hid (HB0.out.trans ((HB4.out : Below w1.heap.size w1 w4).mono HB0.out.size))
        go_wp2_with (first | (refine store8 rfl _ _ rfl _ z8 z8 rfl rfl hx0' rfl rfl ?_; intro wX hld hbX) | fail)
        refine bodyPost_ret (v := .tuple #[av z8, .int .i64 31]) ?_ rfl ?_
        case refine_1 => exact results_two (u := 3) Tryd.results9 rfl hld rfl
        exact parR_none HTN.out (HBF.out.trans hbX)
    | some x =>
      obtain ⟨A1, c1, rfl, hr1⟩ := h1
      obtain ⟨n1, hn1⟩ : ∃ n, x.length = n := ⟨_, rfl⟩
      rw [hn1]
      have hn18 : n1 ≤ 8 := by rw [← hn1]; exact HL1.out x rfl
      have HN1 := Lib.hid hn1
      have HF1 := Lib.hid hr1
      have HS2 := Lib.hid HB2.out.size
      clear hn1 hr1 hB3 HL1
      go_wp2_with fail
      refine (HR2.out _ HB3.out).mono ?_
      rintro e w4 ⟨h2, hB4⟩
      have HF1' := Lib.hid (HF1.out.go hB4)
      have HB4 := Lib.hid (HB3.out.trans (hB4.mono HB3.out.size))
      have HS3 := Lib.hid HB3.out.size
      clear hB4
      cases o2 with
      | none =>
        obtain rfl := h2
        have HTN : Hid (T = none) := Lib.hid HT.out
        have hx0' : Hx w4 w.heap.size z8 := HX0.out.gob (by have := HSZ.out; omega) HB4.out
        have HBF := Lib.hid (HB0.out.trans ((HB4.out : Below w1.heap.size w1 w4).mono HB0.out.size))
        go_wp2_with (first | (refine store8 rfl _ _ rfl _ z8 z8 rfl rfl hx0' rfl rfl ?_; intro wX hld hbX) | fail)
        refine bodyPost_ret (v := .tuple #[av z8, .int .i64 31]) ?_ rfl ?_
        case refine_1 => exact results_two (u := 3) Tryd.results9 rfl hld rfl
        exact parR_none HTN.out (HBF.out.trans hbX)
      | some y =>
        obtain ⟨A2, c2, rfl, hr2⟩ := h2
        obtain ⟨n2, hn2⟩ : ∃ n, y.length = n := ⟨_, rfl⟩
        rw [hn2]
        have hn28 : n2 ≤ 8 := by rw [← hn2]; exact HL2.out y rfl
        have HN2 := Lib.hid hn2
        have HF2 := Lib.hid hr2
        have HTF : Hid (T = fin _ x y) := Lib.hid HT.out
        clear hn2 hr2 HL2 HT
        by_cases h9 : 8 < n1 + n2
        · have h9z : decide ((8 : Int) < (n1 : Int) + (n2 : Int)) = true := decide_eq_true (by omega)
          have HTN : Hid (T = none) := Lib.hid (HTF.out.trans (fin_no HN1.out HN2.out (by omega)))
          clear h9
          have hx0' : Hx w4 w.heap.size z8 := HX0.out.gob (by have := HSZ.out; omega) HB4.out
          have HBF := Lib.hid (HB0.out.trans ((HB4.out : Below w1.heap.size w1 w4).mono HB0.out.size))
          go_wp2_with (first | (refine store8 rfl _ _ rfl _ z8 z8 rfl rfl hx0' rfl rfl ?_; intro wX hld hbX) | fail)
          refine bodyPost_ret (v := .tuple #[av z8, .int .i64 31]) ?_ rfl ?_
          case refine_1 => exact results_two (u := 3) Tryd.results9 rfl hld rfl
          exact parR_none HTN.out (HBF.out.trans hbX)
        · have h9z : decide ((8 : Int) < (n1 : Int) + (n2 : Int)) = false := decide_eq_false (by omega)
          by_cases h8 : n1 + n2 = 8
          · have h8z : ((n1 : Int) + (n2 : Int) == 8) = true := by rw [beq_iff_eq]; omega
            have HTN : Hid (T = none) := Lib.hid (HTF.out.trans (fin_no HN1.out HN2.out (by simp; omega)))
            clear h9 h8
            have hx0' : Hx w4 w.heap.size z8 := HX0.out.gob (by have := HSZ.out; omega) HB4.out
            have HBF := Lib.hid (HB0.out.trans ((HB4.out : Below w1.heap.size w1 w4).mono HB0.out.size))
            go_wp2_with (first | (refine store8 rfl _ _ rfl _ z8 z8 rfl rfl hx0' rfl rfl ?_; intro wX hld hbX) | fail)
            refine bodyPost_ret (v := .tuple #[av z8, .int .i64 31]) ?_ rfl ?_
            case refine_1 => exact results_two (u := 3) Tryd.results9 rfl hld rfl
            exact parR_none HTN.out (HBF.out.trans hbX)
          · have h8z : ((n1 : Int) + (n2 : Int) == 8) = false := by rw [beq_eq_false_iff_ne]; omega
            have HTS := Lib.hid (HTF.out.trans (fin_yes HN1.out HN2.out (by omega) (by simp; omega)))
            obtain ⟨k2, hk2⟩ : ∃ k2, n2 + k2 = 8 := ⟨8 - n2, by omega⟩
            have hk2i : (8 : Int) - (n2 : Int) = (k2 : Int) := by omega
            have HSP := Lib.hid (fin_splice HN1.out HN2.out hk2 (by omega))
            have HFL := Lib.hid (fin_len (HTF.out.symm.trans HTS.out))
            obtain ⟨R, hR⟩ : ∃ R, x ++ List.replicate (8 - n1 - n2) 0 ++ y = R := ⟨_, rfl⟩
            rw [hR] at HTS HSP HFL
            have hx0' : Hx w4 w.heap.size z8 := HX0.out.gob (by have := HSZ.out; omega) HB4.out
            have hx1' : Hx w4 (w.heap.size + 1) z8 := HX1.out.gob (by have := HSZ.out; omega) HB4.out
            have HBF := Lib.hid (HB0.out.trans ((HB4.out : Below w1.heap.size w1 w4).mono HB0.out.size))
            have hsl0 := fun W => sl_all (w.heap.size + 1) W
            have hsl2 := fun W => sl_l (w.heap.size + 1) k2 (by omega) W
            rw [show 8 - k2 = n2 by omega] at hsl2
            have HOF : Hid (0 < n2 → off k2 = k2) := Lib.hid (fun h => off_lt (by omega))
            obtain ⟨o2, ho2⟩ : ∃ o, off k2 = o := ⟨_, rfl⟩
            rw [ho2] at hsl2 HOF
            have HM1 : Hid ((cu x).length = Nat.min n1 8) := Lib.hid (by rw [cu_len, HN1.out]; simp only [Nat.min_def]; split <;> omega)
            have HM2 : Hid ((cu y).length = Nat.min n2 n2) := Lib.hid (by rw [cu_len, HN2.out]; simp only [Nat.min_def]; split <;> omega)
            have HFT1 : Hid (0 + (cu x).length ≤ (cu z8).length) := Lib.hid (by rw [cu_len, HN1.out]; show 0 + n1 ≤ 8; omega)
            have HFT2 : Hid (k2 + (cu y).length ≤ (splice (cu z8) 0 (cu x)).length) := Lib.hid (by rw [length_splice _ _ _ HFT1.out, cu_len, HN2.out]; show k2 + n2 ≤ 8; omega)
            have HDP : Hid (0 < (cu y).length → (some (⟨w.heap.size + 1, o2, none⟩ : Addr)) = some ⟨w.heap.size + 1, k2, none⟩) := Lib.hid (fun h => by rw [cu_len, HN2.out] at h; rw [HOF.out h])
            have HK2 := Lib.hid hk2
            clear hk2 hR ho2
            go_upto_region 8 with fail
            go_wp2_with (first
              | (refine wpList_copy8 rfl _ _ rfl (some ⟨w.heap.size + 1, 0, none⟩) A1 8 8 n1 c1 rfl rfl (w.heap.size + 1) 0 (cu z8) hx1' (cu x) HM1.out w2.heap.size (fun _ => rfl) HF1'.out HFT1.out (one_cu x) ?_; intro w5 hg5 hs5 ho5 hb5; have HF2' := Lib.hid (HF2.out.keep (Nat.le_of_eq hs5.symm) (fun b h1 h2 => ho5 b (by have := HSZ.out; have := HS3.out; have := HB3.out.size; omega))))
              | (refine wpList_copy8 rfl _ _ rfl (some ⟨w.heap.size + 1, o2, none⟩) A2 n2 n2 n2 c2 rfl rfl (w.heap.size + 1) k2 (splice (cu z8) 0 (cu x)) hg5 (cu y) HM2.out w3.heap.size HDP.out HF2'.out HFT2.out (one_cu y) ?_; intro w6 hg6 hs6 ho6 hb6; have HX6 : Hid (Hx w6 (w.heap.size + 1) R) := Lib.hid (by rw [HSP.out] at hg6; exact hg6); have hx6 := HX6.out; have hr6 : Hx w6 w.heap.size z8 := (hx0'.gob (Nat.lt_succ_self _) hb5).gob (Nat.lt_succ_self _) hb6)
              | (refine load8 _ rfl _ rfl R hx6 HFL.out rfl ?_)
              | (refine store8 rfl _ _ rfl _ z8 R rfl rfl hr6 rfl HFL.out ?_; intro wX hld hbX)
              | fail)
            refine bodyPost_ret (v := .tuple #[av R, .int .i64 0]) ?_ rfl ?_
            case refine_1 => exact results_two (u := 3) Tryd.results9 rfl hld rfl
            exact parR_some HTS.out (HBF.out.trans (((hb5.trans hb6).mono (Nat.le_succ _)).trans hbX))
end Go.Proofs.YtcoppicieicikaaDoor.Sx
