/-
  six: four; pieces.
-/
import Derived.Test.YtcoppicieicikaaDoorSixD
import Derived.Test.YtcoppicieicikaaDoorSixQ
namespace Go.Proofs.YtcoppicieicikaaDoor.Sx
open Go.RowKit Go.Shelf

/-- a row of numbers, or none -/
def RowR (o : Option (List Nat)) (w : World) (e : Ending) (w' : World) : Prop :=
  (match o with | some y => ∃ A c, e = .returned (.slice A y.length c) ∧ Row w' w'.heap.size A (cu y) | none => e = .returned (.slice none 0 0)) ∧ Below w.heap.size w w'
theorem cut3_four {l a b c d : List UInt8} (h : cut3 3 l = [a, b, c, d]) : four l = (dec a).bind fun a => (dec b).bind fun b => (dec c).bind fun c => (dec d).bind fun d => some [a * 256 + b, c * 256 + d] := by
  unfold four
  rw [cut3] at h
  cases h1 : cutg [46] l with
  | none => rw [h1] at h; simp at h
  | some p =>
    rw [h1] at h
    simp only [List.cons.injEq] at h
    obtain ⟨rfl, h⟩ := h
    rw [cut3] at h
    simp only [Option.bind_some]
    cases h2 : cutg [46] p.2 with
    | none => rw [h2] at h; simp at h
    | some q =>
      rw [h2] at h
      simp only [List.cons.injEq] at h
      obtain ⟨rfl, h⟩ := h
      rw [cut3] at h
      simp only [Option.bind_some]
      cases h3 : cutg [46] q.2 with
      | none => rw [h3] at h; simp at h
      | some r =>
        rw [h3] at h
        simp only [cut3, List.cons.injEq, and_true] at h
        obtain ⟨rfl, rfl⟩ := h
        rfl
theorem cut3_not {l : List UInt8} (h : (cut3 3 l).length ≠ 4) : four l = none := by
  unfold four
  rw [cut3] at h
  cases h1 : cutg [46] l with
  | none => rfl
  | some p =>
    rw [h1] at h
    rw [Option.bind_some]
    simp only at h
    rw [cut3] at h
    cases h2 : cutg [46] p.2 with
    | none => rfl
    | some q =>
      rw [h2] at h
      rw [Option.bind_some]
      simp only at h
      rw [cut3] at h
      cases h3 : cutg [46] q.2 with
      | none => rfl
      | some r =>
        rw [h3] at h
        simp [cut3] at h
theorem four_len {ps : List (List UInt8)} (h : ps.length = 4) : ∃ a b c d, ps = [a, b, c, d] := by
  rcases ps with _ | ⟨a, _ | ⟨b, _ | ⟨c, _ | ⟨d, _ | ⟨e, t⟩⟩⟩⟩⟩
  · simp at h
  · simp at h
  · simp at h
  · simp at h
  · exact ⟨a, b, c, d, rfl⟩
  · simp at h
theorem four_bad {l p : List UInt8} (h4 : (cut3 3 l).length = 4) (hp : p ∈ cut3 3 l) (hd : dec p = none) : four l = none := by
  obtain ⟨a, b, c, d, e⟩ := four_len h4
  rw [cut3_four e]
  rw [e] at hp
  simp only [List.mem_cons, List.not_mem_nil, or_false] at hp
  rcases hp with rfl | rfl | rfl | rfl
  · rw [hd]; rfl
  · rw [hd]; cases dec a <;> rfl
  · rw [hd]; cases dec a <;> cases dec b <;> rfl
  · rw [hd]; cases dec a <;> cases dec b <;> cases dec c <;> rfl
theorem four_good {l : List UInt8} {a b c d : Nat} (h : (cut3 3 l).map dec = [some a, some b, some c, some d]) : four l = some [a * 256 + b, c * 256 + d] := by
  obtain ⟨p, q, r, s, e⟩ := four_len (ps := cut3 3 l) (by have := congrArg List.length h; simpa using this)
  rw [e] at h
  simp only [List.map_cons, List.map_nil, List.cons.injEq, and_true] at h
  rw [cut3_four e, h.1, h.2.1, h.2.2.1, h.2.2.2]
  rfl
theorem dec_bound {p : List UInt8} {n : Nat} (h : dec p = some n) : n < 256 := (dec_some h).2.2.1
theorem d10_bound {p : List UInt8} {n : Nat} (h : d10 p = some n) : n < 256 := by
  unfold d10 at h
  split at h
  · cases h
  · split at h
    · split at h
      · obtain rfl := Option.some.inj h; assumption
      · cases h
    · cases h
/-- the numbers of an embedded address so far -/
def F4 (w : World) (B : Nat) (ds : List Nat) : Prop := w.heap[B]? = some (.cells (cu (ds ++ List.replicate (4 - ds.length) 0)).toArray 118 (0, 0))
theorem F4.new (w : World) : F4 (w.alloc (.cells #[.int .u16 0, .int .u16 0, .int .u16 0, .int .u16 0] 118)) w.heap.size [] := World.alloc_heap_new w _
theorem F4.lt {w : World} {B : Nat} {ds : List Nat} (h : F4 w B ds) : B < w.heap.size := (Array.getElem?_eq_some_iff.1 h).1
theorem F4.go {a b : World} {B : Nat} {ds : List Nat} (h : F4 a B ds) (hb : Below a.heap.size a b) : F4 b B ds := (hb.block _ h.lt).trans h
theorem F4.cell {w : World} {B : Nat} {ds : List Nat} (h : F4 w B ds) {k : Nat} (hk : k < ds.length) : w.cell? ⟨B, k, none⟩ = some (.int .u16 (nth ds k : Int)) := by
  rw [cell_of_row w B k _ _ _ h, List.getElem?_toArray, cu_get (by simp; omega), nth, nth, List.getD, List.getD, List.getElem?_append_left hk]
theorem F4.cell0 {w : World} {B : Nat} {ds : List Nat} (h : F4 w B ds) {k : Nat} (hk : k = ds.length) (hl : k < 4) : w.cell? ⟨B, k, none⟩ = some (.int .u16 0) := by
  subst hk
  rw [cell_of_row w B _ _ _ _ h, List.getElem?_toArray, cu_get (by simp; omega), nth, List.getD, List.getElem?_append_right (Nat.le_refl _), Nat.sub_self, List.getElem?_replicate, if_pos (by omega)]
  rfl
theorem F4.frozen {w : World} {B : Nat} {ds : List Nat} (h : F4 w B ds) (k : Nat) : w.frozen? ⟨B, k, none⟩ = false := by
  unfold F4 at h
  simp [World.frozen?, h]
theorem F4.put {w : World} {B : Nat} {ds : List Nat} (h : F4 w B ds) {k : Nat} (hk : k = ds.length) (hl : k < 4) (v : Nat) : F4 (w.setCell ⟨B, k, none⟩ (.int .u16 (v : Int))) B (ds ++ [v]) := by
  subst hk
  have e : (ds ++ [v]) ++ List.replicate (4 - (ds ++ [v]).length) 0 = (ds ++ List.replicate (4 - ds.length) 0).set ds.length v := by
    rw [List.append_assoc, List.set_append_right _ _ (Nat.le_refl _), Nat.sub_self, List.length_append, List.length_singleton, show 4 - ds.length = (4 - (ds.length + 1)) + 1 by omega, List.replicate_succ]
    rfl
  unfold F4 at h ⊢
  rw [e]
  simp only [World.setCell, Array.getElem?_modify, if_true, h, Option.map_some]
  congr 2
  simp [cu]
theorem or8 {a b : Nat} (ha : a < 256) (hb : b < 256) : bits .or .u16 ((a : Int) * 256) (b : Int) = (a : Int) * 256 + (b : Int) := by
  have h : (a * 256) ||| b = a * 256 + b := by
    have := Nat.shiftLeft_add_eq_or_of_lt (i := 8) (b := b) hb a
    rw [Nat.shiftLeft_eq] at this
    exact this.symm
  have e := u16_or_nat (a * 256) b (by omega) (by omega)
  rw [h] at e
  simpa using e
theorem cut3_size : ∀ (k : Nat) (l p : List UInt8), p ∈ cut3 k l → p.length ≤ l.length
  | 0, l, p, h => by simp [cut3] at h; subst h; exact Nat.le_refl _
  | k + 1, l, p, h => by
    rw [cut3] at h
    cases hc : cutg [46] l with
    | none => rw [hc] at h; simp at h; subst h; exact Nat.le_refl _
    | some q =>
      rw [hc] at h
      have e := congrArg List.length (cut1_some hc).1
      rw [List.length_append, List.length_cons] at e
      rcases List.mem_cons.1 h with h | h
      · subst h; omega
      · have := cut3_size k q.2 p h
        omega
theorem dec_snoc {P : Nat → ByteArray} {ds : List Nat} {k v : Nat} (hl : ds.length = k) (h : ∀ j, j < k → dec (dl (P j)) = some (nth ds j)) (hv : dec (dl (P k)) = some v) : ∀ j, j < k + 1 → dec (dl (P j)) = some (nth (ds ++ [v]) j) := by
  intro j hj
  by_cases e : j = k
  · subst e
    rw [hv, nth, List.getD, List.getElem?_append_right (by omega), hl, Nat.sub_self]
    rfl
  · rw [h j (by omega), nth, nth, List.getD, List.getD, List.getElem?_append_left (by omega)]
theorem rowR_none {o : Option (List Nat)} {w w' : World} (h : o = none) (hB : Below w.heap.size w w') : RowR o w (.returned (.slice none 0 0)) w' := by subst h; exact ⟨rfl, hB⟩
theorem rowR_some {o : Option (List Nat)} {y : List Nat} {A : Option Addr} {n c : Nat} {w w' : World} (h : o = some y) (hn : y.length = n) (hr : Row w' w'.heap.size A (cu y)) (hB : Below w.heap.size w w') : RowR o w (.returned (.slice A n c)) w' := by subst h; subst hn; exact ⟨⟨A, c, rfl, hr⟩, hB⟩
theorem head_of {q : ByteArray} (h : 0 < q.size) : (dl q).head? = some q[0] := by
  rw [get_dl h, List.head?_eq_getElem?, List.getElem?_eq_getElem]
theorem dec_of {q : ByteArray} (h : ¬ (1 < q.size ∧ (dl q).head? = some 48)) : dec (dl q) = d10 (dl q) := by
  rw [dec_d10, if_neg]
  rw [show (dl q).length = q.size by simp [dl]]
  exact h
theorem dec_no {q : ByteArray} (h : 1 < q.size) (h2 : (dl q).head? = some 48) : dec (dl q) = none := by
  rw [dec_d10, if_pos]
  rw [show (dl q).length = q.size by simp [dl]]
  exact ⟨h, h2⟩
set_option maxRecDepth 100000 in
set_option maxHeartbeats 2000000 in
theorem four_any (s : ByteArray) (hs : s.size ≤ 1000000) (w : World) (hE : Env w) : Calls Tryd.prog 75 #[.string s] w (RowR (four (dl s)) w) := by
  have HS := Lib.hid (SplitN_any s hs w hE)
  have HE := Lib.hid (fun w' (hB : Below w.heap.size w w') => hE.go hB)
  have hz : (dl s).length = s.size := by simp [dl]
  have HZ := Lib.hid hz
  have HSZ := Lib.hid hs
  clear hE hz hs
  go_enter Tryd.func75, Tryd.ntmps75
  go_wp2_with fail
  refine HS.out.mono ?_
  rintro e w1 ⟨xs, c, rfl, hxs, hcells, hlt1, hB1⟩
  obtain ⟨m, hm⟩ : ∃ m, xs.length = m := ⟨_, rfl⟩
  have hlen : (cut3 3 (dl s)).length = m := by rw [← hxs, List.length_map, hm]
  rw [hm]
  by_cases h4 : m = 4
  · subst h4
    have HL := Lib.hid hlen
    obtain ⟨P, hP⟩ : ∃ P : Nat → ByteArray, ∀ k, k < 4 → xs[k]? = some (P k) := ⟨fun k => xs.getD k ByteArray.empty, fun k hk => by
      show xs[k]? = some (xs.getD k ByteArray.empty)
      rw [List.getD, List.getElem?_eq_getElem (by omega)]
      rfl⟩
    have HC := Lib.hid (fun k (hk : k < 4) => hcells k (P k) (hP k hk))
    have HPM : Hid (∀ k, k < 4 → dl (P k) ∈ cut3 3 (dl s)) := Lib.hid (fun k hk => by
      rw [← hxs]
      exact List.mem_map_of_mem (List.mem_of_getElem? (hP k hk)))
    have HPS : Hid (∀ k, k < 4 → (P k).size ≤ 1000000) := Lib.hid (fun k hk => by
      have h1 : (P k).size = (dl (P k)).length := by simp [dl]
      have h2 := cut3_size 3 (dl s) _ (HPM.out k hk)
      have := HZ.out
      have := HSZ.out
      omega)
    have HP4 : Hid (cut3 3 (dl s) = [dl (P 0), dl (P 1), dl (P 2), dl (P 3)]) := Lib.hid (by
      rw [← hxs]
      refine List.ext_getElem? fun i => ?_
      rw [List.getElem?_map]
      by_cases hi : i < 4
      · rw [hP i hi]
        have : i = 0 ∨ i = 1 ∨ i = 2 ∨ i = 3 := by omega
        rcases this with rfl | rfl | rfl | rfl <;> rfl
      · rw [List.getElem?_eq_none (by omega), List.getElem?_eq_none (by simp; omega)]
        rfl)
    have hF0 := Lib.hid (F4.new w1)
    have hB2 := Lib.hid (upA w1 (.cells #[.int .u16 0, .int .u16 0, .int .u16 0, .int .u16 0] 118))
    have HB1 := Lib.hid hB1
    have HLT := Lib.hid hlt1
    clear hxs hm hlen hcells hP hB1 hlt1
    go_upto_region 5 with fail
    generalize w1.alloc (.cells #[.int .u16 0, .int .u16 0, .int .u16 0, .int .u16 0] 118) = w2 at hF0 hB2 ⊢
    go_wp2_with fail
    go_loopg [16] 4 (fun g s16 wr => ∃ (k : Nat) (ds : List Nat), s16 = .int .i64 (k : Int) ∧ 4 - k = g ∧ k ≤ 4 ∧ Hid (ds.length = k) ∧ Hid (∀ j, j < k → dec (dl (P j)) = some (nth ds j)) ∧ Hid (F4 wr w1.heap.size ds) ∧ Hid (Below w1.heap.size w1 wr))
    case atStart => exact ⟨0, [], rfl, rfl, Nat.zero_le _, Lib.hid rfl, Lib.hid (fun j hj => by omega), hF0, hB2⟩
    case round =>
      clear hF0 hB2
      obtain ⟨k, ds, rfl, rfl, hk, HD, HDC, HF, HB⟩ := hrel
      by_cases hlt : k < 4
      · have hltz : (k : Int) < 4 := by omega
        have hc := (HB.out.cell (p := ⟨w.heap.size, k, none⟩) HLT.out).trans (HC.out k hlt)
        have HQS := Lib.hid (HPS.out k hlt)
        have HQM := Lib.hid (HPM.out k hlt)
        have HBw := Lib.hid (HB1.out.trans (HB.out.mono (Nat.le_of_lt HLT.out)))
        obtain ⟨q, hq⟩ : ∃ q, P k = q := ⟨_, rfl⟩
        rw [hq] at hc HQS HQM
        have HQ := Lib.hid hq
        clear hq
        have HU := Lib.hid (ParseUint10_any q HQS.out wr (HE.out _ HBw.out))
        cases hd : d10 (dl q) with
        | none =>
          rw [hd] at HU
          have hdn : dec (dl q) = none := by
            rw [dec_d10, hd]
            split <;> rfl
          have HN := Lib.hid (four_bad HL.out HQM.out hdn)
          clear hd hdn
          go_wp2_with fail
          refine HU.out.mono ?_
          rintro e w3 ⟨⟨v, te, pe, rfl⟩, hB3⟩
          go_wp2_with fail
          go_ret
          exact rowR_none HN.out (upB HBw.out hB3)
        | some v =>
          rw [hd] at HU
          have hv := d10_bound hd
          have hv0 : (v : Int) < 256 := by omega
          have HV := Lib.hid hv
          have HDD := Lib.hid hd
          clear hd hv
          by_cases hl : 1 < q.size
          · have hlz : (1 : Int) < (q.size : Int) := by omega
            have hq0 : 0 < q.size := by omega
            have hhd := head_of hq0
            cases hz : ((q[0].toNat : Int) == 48) with
            | true =>
              have e48 : q[0] = 48 := byte_eq (k := 48) (by decide) hz
              have HN := Lib.hid (four_bad HL.out HQM.out (dec_no hl (by rw [hhd, e48])))
              clear e48 hhd
              go_wp2_with fail
              refine HU.out.mono ?_
              rintro e w3 ⟨rfl, hB3⟩
              go_wp2_with fail
              go_ret
              exact rowR_none HN.out (upB HBw.out hB3)
            | false =>
              have e48 : q[0] ≠ 48 := byte_ne (k := 48) (by decide) hz
              have HDV : Hid (dec (dl q) = some v) := Lib.hid (by rw [dec_of (by rw [hhd]; rintro ⟨_, e⟩; exact e48 (Option.some.inj e)), HDD.out])
              clear e48 hhd
              go_wp2_with fail
              refine HU.out.mono ?_
              rintro e w3 ⟨rfl, hB3⟩
              have HF3 := Lib.hid (HF.out.go hB3)
              have c3 := HF3.out.cell0 HD.out.symm hlt
              have f3 := HF3.out.frozen k
              have HB3 := Lib.hid (HB.out.trans (hB3.mono HB.out.size))
              clear hB3
              go_wp2_with fail
              go_roundg (4 - (k + 1))
              case measure => omega
              case rel => exact ⟨k + 1, ds ++ [v], by go_num, rfl, by omega, Lib.hid (by rw [List.length_append, HD.out]; rfl), Lib.hid (dec_snoc HD.out HDC.out (by rw [HQ.out]; exact HDV.out)), Lib.hid (HF3.out.put HD.out.symm hlt v), Lib.hid (HB3.out.setCell (p := ⟨w1.heap.size, k, none⟩) (Nat.le_refl _) _)⟩
          · have hlz : ¬ (1 : Int) < (q.size : Int) := by omega
            have HDV : Hid (dec (dl q) = some v) := Lib.hid (by rw [dec_of (by rintro ⟨e, _⟩; exact hl e), HDD.out])
            clear hl
            go_wp2_with fail
            refine HU.out.mono ?_
            rintro e w3 ⟨rfl, hB3⟩
            have HF3 := Lib.hid (HF.out.go hB3)
            have c3 := HF3.out.cell0 HD.out.symm hlt
            have f3 := HF3.out.frozen k
            have HB3 := Lib.hid (HB.out.trans (hB3.mono HB.out.size))
            clear hB3
            go_wp2_with fail
            go_roundg (4 - (k + 1))
            case measure => omega
            case rel => exact ⟨k + 1, ds ++ [v], by go_num, rfl, by omega, Lib.hid (by rw [List.length_append, HD.out]; rfl), Lib.hid (dec_snoc HD.out HDC.out (by rw [HQ.out]; exact HDV.out)), Lib.hid (HF3.out.put HD.out.symm hlt v), Lib.hid (HB3.out.setCell (p := ⟨w1.heap.size, k, none⟩) (Nat.le_refl _) _)⟩
      · obtain rfl : k = 4 := by omega
        obtain ⟨a, b, cc, d, rfl⟩ : ∃ a b c d, ds = [a, b, c, d] := by
          have hl := HD.out
          rcases ds with _ | ⟨a, _ | ⟨b, _ | ⟨c, _ | ⟨d, _ | ⟨e, t⟩⟩⟩⟩⟩
          · simp at hl
          · simp at hl
          · simp at hl
          · simp at hl
          · exact ⟨a, b, c, d, rfl⟩
          · simp at hl
        have c0 := HF.out.cell (k := 0) (by simp)
        have c1 := HF.out.cell (k := 1) (by simp)
        have c2 := HF.out.cell (k := 2) (by simp)
        have c3 := HF.out.cell (k := 3) (by simp)
        have d0 := HDC.out 0 (by decide)
        have d1 := HDC.out 1 (by decide)
        have d2 := HDC.out 2 (by decide)
        have d3 := HDC.out 3 (by decide)
        simp only [nth, List.getD_cons_zero, List.getD_cons_succ] at c0 c1 c2 c3 d0 d1 d2 d3
        have ha := dec_bound d0
        have hb := dec_bound d1
        have hcc := dec_bound d2
        have hd := dec_bound d3
        have HN : Hid (four (dl s) = some [a * 256 + b, cc * 256 + d]) := Lib.hid (four_good (by rw [HP4.out]; simp only [List.map_cons, List.map_nil]; rw [d0, d1, d2, d3]))
        have o1 := or8 ha hb
        have o2 := or8 hcc hd
        have HBw := Lib.hid (HB1.out.trans (HB.out.mono (Nat.le_of_lt HLT.out)))
        have ha' : (a : Int) < 256 := by omega
        have hc' : (cc : Int) < 256 := by omega
        have hltz : ¬ ((4 : Int) < 4) := by decide
        clear d0 d1 d2 d3
        go_wp2_with fail
        go_ret
        refine rowR_some HN.out rfl ?_ (upB HBw.out (upA wr _))
        rw [World.size_alloc]
        exact row_new wr _ 22 _ (by simp [cu])
  · have hmz : ((m : Int) != 4) = true := by simp; omega
    have HN := Lib.hid (cut3_not (l := dl s) (by rw [hlen]; exact h4))
    clear hlen h4 hm
    go_wp2_with fail
    go_ret
    exact rowR_none HN.out hB1
end Go.Proofs.YtcoppicieicikaaDoor.Sx
