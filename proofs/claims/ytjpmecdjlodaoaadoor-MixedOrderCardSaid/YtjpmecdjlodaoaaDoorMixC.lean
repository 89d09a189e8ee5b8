/-
  mixed: the scripts of counts; East Asian, together, level.
-/
import Derived.Test.YtjpmecdjlodaoaaDoorMixB
import Derived.Maps.AppendAt
namespace Go.Proofs.YtjpmecdjlodaoaaDoor.Mix
open Go.RowKit Ucd Rul

theorem info_uint8 : (Tryd.prog.info? 5).map (fun i => (i.zero, i.size, i.bytes)) = some (some (.int .u8 0), 1, 1) := by kernel_rfl
theorem info_split {i : TypeId} {z : Value} {a b : Nat} (h : (Tryd.prog.info? i).map (fun i => (i.zero, i.size, i.bytes)) = some (some z, a, b)) : ∃ x, Tryd.prog.info? i = some x ∧ x.zero = some z ∧ x.size = a ∧ x.bytes = b := by
  cases hx : Tryd.prog.info? i with
  | none => rw [hx] at h; cases h
  | some x => rw [hx] at h; simp only [Option.map_some, Option.some.injEq, Prod.mk.injEq] at h; exact ⟨x, rfl, h.1, h.2.1, h.2.2⟩
theorem own_form {w : World} {base : Nat} {e : TypeId} {size n : Nat} {v : Value} {xs : List Value} (h : w.ownsRow base e size v n xs) : ∃ A c, v = .slice A n c ∧ n ≤ c ∧ Row w w.heap.size A xs := by
  rcases h.2 with ⟨rfl, rfl⟩ | ⟨g, cap, cur, rfl, _, _, hc, _⟩
  · exact ⟨none, 0, rfl, by omega, .of_own h⟩
  · exact ⟨_, cap, rfl, hc, .of_own h⟩
theorem own_row {w : World} {base : Nat} {e : TypeId} {size n m c : Nat} {A : Option Addr} {xs : List Value} (h : w.ownsRow base e size (.slice A m c) n xs) : Row w w.heap.size A xs := by
  obtain ⟨A1, c1, hv, _, hr⟩ := own_form h
  cases hv
  exact hr
theorem wpList_load_g {P : Program} {ops : Array Oper} {rest : List Oper} {op : Oper} {a : Act} {w : World} {Q : Exit → Act → World → Prop} (ty : TypeId) (x : Operand) (ho : op.op = .load ty x)
    (b o : Nat) (hx : a.eval x = .pointer (some ⟨b, o, none⟩)) (cs : List Value) (d : TypeDesc) (hc : w.rangeAt b o cs)
    (hu : P.underlying ty = some d) (hd : d.isRow = true) (hi : (P.info? ty).map (·.size) = some cs.length) (hgd : Region.wanted op (yielded ops a.tmps) = true)
    (h : wpList P ops Q rest (a.put op.dst (.agg cs.toArray)) w) : wpList P ops Q (op :: rest) a w := by
  refine wpList_step fun K hK => ?_
  simp only [hgd, if_true]
  exact wp_load_mid ty x ho b o hx cs d hc hu hd hi (hK _ _ h)
/-- a load of counts, also behind a guard that is met -/
theorem load_cnt {ops : Array Oper} {rest : List Oper} {op : Oper} {a : Act} {w : World} {Q : Exit → Act → World → Prop} (x : Operand) (ho : op.op = .load 43 x)
    (b : Nat) (hx : a.eval x = .pointer (some ⟨b, 0, none⟩)) (L : List Int) (hc : Cb w b L) (hL : L.length = 12) (hgd : Region.wanted op (yielded ops a.tmps) = true)
    (h : wpList Tryd.prog ops Q rest (a.put op.dst (.agg (cl .i64 L).toArray)) w) : wpList Tryd.prog ops Q (op :: rest) a w :=
  wpList_load_g 43 x ho b 0 hx (cl .i64 L) _ hc.range Tryd.underlying43 rfl (info_of L hL) hgd h
theorem snoc8 (R : List Int) (r : Int) : cl .u8 (R ++ [r]) = cl .u8 R ++ [.int .u8 r] := by simp [cl]
/-- append(s, y), where the one to be appended has just been laid -/
theorem wpList_app8 {ops : Array Oper} {rest : List Oper} {o : Oper} {a : Act} {Q : Exit → Act → World → Prop} (w0 W : World) (hgd : o.guard = none) (s x : Operand)
    (ho : o.op = .call { callee := .builtin .append, args := #[s, x], argTypes := #[24, 24] })
    (v : Value) (n m : Nat) (xs : List Int) (y : Int) (hs : a.eval s = v) (hown : W.ownsRow w0.heap.size 5 1 v n (cl .u8 xs)) (hB : Below w0.heap.size w0 W)
    (hx : a.eval x = .slice (some ⟨W.heap.size, 0, none⟩) 1 1) (hm : n + 1 = m) (hm2 : m ≤ 100000)
    (h : ∀ A' c' w', w'.ownsRow w0.heap.size 5 1 (.slice A' m c') m (cl .u8 (xs ++ [y])) → Below w0.heap.size w0 w' → wpList Tryd.prog ops Q rest (a.put o.dst (.slice A' m c')) w') :
    wpList Tryd.prog ops Q (o :: rest) a (W.alloc (.cells #[.int .u8 y] 5)) := by
  subst hm
  obtain ⟨i0, hi, hz0, hz1, hz2⟩ := info_split info_uint8
  refine wpList_append_row _ hgd s x 24 ho w0.heap.size 5 i0 (.int .u8 0) 1 1 Tryd.underlying24 hi hz0 hz1 hz2 rfl (Nat.zero_lt_succ 0) v n (cl .u8 xs) hs (hown.alloc _) _ _ 1 1 [.int .u8 y] hx rfl (row_new _ #[.int .u8 y] 5 _ rfl) (by simp [Value.oneCell']) (by unfold maxLen; omega) (by omega) (hB.alloc hB.size _).size ?_
  intro v' w' hO hg
  have hB2 := (hB.alloc hB.size (.cells #[.int .u8 y] 5)).grown hg (hB.alloc hB.size _).size (fun j e => (hown.lt j e).1)
  obtain ⟨A', c', rfl, _, _⟩ := own_form hO
  exact h A' c' w' (by rw [snoc8]; exact hO) hB2

/-- a row of small numbers is told -/
def Row8 (xs : List Int) (w : World) (e : Ending) (w' : World) : Prop := ∃ A c, e = .returned (.slice A xs.length c) ∧ Row w' w'.heap.size A (cl .u8 xs) ∧ Below w.heap.size w w'
def scrK (p : Nat → Bool) (k : Nat) : List Int := ((List.range k).filter p).map (fun s : Nat => (s : Int))
theorem scrK_yes {p : Nat → Bool} {k : Nat} (h : p k = true) : scrK p (k + 1) = scrK p k ++ [(k : Int)] := by
  unfold scrK; rw [List.range_succ, List.filter_append, List.filter_cons, if_pos h, List.map_append]; rfl
theorem scrK_no {p : Nat → Bool} {k : Nat} (h : p k = false) : scrK p (k + 1) = scrK p k := by
  unfold scrK; rw [List.range_succ, List.filter_append, List.filter_cons, if_neg (by rw [h]; decide)]; simp
theorem scrK_len (p : Nat → Bool) (k : Nat) : (scrK p k).length ≤ k := by
  unfold scrK; rw [List.length_map]; exact Nat.le_trans (List.length_filter_le _ _) (by simp)
theorem index_cnt (L : List Int) (hL : L.length = 12) (k : Nat) (hk : k < 12) (W : World) : (Instr.index 43 (.agg (cl .i64 L).toArray) (.int .i64 (k : Int))).run Tryd.prog W = .ok (.int .i64 L[k]!) W := by
  have hp := part_cnt L W k (by omega)
  have hs : (sizeOf 3).run Tryd.prog W = .ok 1 W := by kernel_rfl
  have h2 : (0 : Int) ≤ (k : Int) ∧ (k : Int) < (12 : Nat) := by omega
  unfold Instr.index
  simp only [asIntOf, Sem.run_bind, Sem.run_pure, Result.andThen_ok, run_underlying Tryd.underlying43]
  rw [if_pos h2]
  simp only [Sem.run_bind, hs, Result.andThen_ok, Int.toNat_natCast, Nat.mul_one, hp]

set_option maxRecDepth 100000 in
set_option maxHeartbeats 1000000 in
theorem scripts_any (L : List Int) (hL : L.length = 12) (hN : Nn L) (w : World) : Calls Tryd.prog 21 #[cv L] w (Row8 (scr (pos L)) w) := by
  have hB0 : Below w.heap.size w (w.alloc (.cells (cl .i64 L).toArray 43)) := upA w _
  have h0 := Cb.new w L
  have hu := Tryd.underlying43
  have hI := Lib.hid (info_of L hL)
  have HL := Lib.hid hL
  have HN := Lib.hid hN
  clear hL hN
  go_enter Tryd.func21, Tryd.ntmps21
  go_upto_region 1 with fail
  generalize w.alloc (.cells (cl .i64 L).toArray 43) = w1 at h0 hB0 ⊢
  go_wp2_with (first | (refine wpList_load_mid rfl 43 _ rfl _ 0 rfl (cl .i64 L) _ h0.range hu rfl hI.out ?_) | fail)
  clear hu hI
  go_loopg [3, 7] 12 (fun m s3 s7 wr => ∃ (k : Nat) (A : Option Addr) (c : Nat), s7 = .int .i64 (k : Int) ∧ s3 = .slice A (scrK (pos L) k).length c ∧ m = 12 - k ∧ k ≤ 12 ∧ wr.ownsRow w.heap.size 5 1 (.slice A (scrK (pos L) k).length c) (scrK (pos L) k).length (cl .u8 (scrK (pos L) k)) ∧ Below w.heap.size w wr)
  case atStart => exact ⟨0, none, 0, rfl, rfl, rfl, Nat.zero_le _, World.ownsRow_nil _ _ _ _, hB0⟩
  case round =>
    obtain ⟨k, A, c, rfl, rfl, rfl, hk, hO, hB⟩ := hrel
    have hlen := scrK_len (pos L) k
    by_cases hlt : k < 12
    · have hltz : (k : Int) < 12 := by omega
      have hix := index_cnt L HL.out k hlt
      have hx0 := HN.out _ (mems (l := L) (i := k) (by rw [HL.out]; exact hlt))
      have HP : Hid (pos L k = decide (0 < L[k]!)) := Lib.hid rfl
      generalize L[k]! = x at hix hx0 HP
      by_cases hp : 0 < x
      · have HS := Lib.hid (scrK_yes (p := pos L) (k := k) (by rw [HP.out]; exact decide_eq_true hp))
        generalize scrK (pos L) k = xs at hO hlen HS ⊢
        obtain ⟨n, hn⟩ : ∃ n, xs.length = n := ⟨_, rfl⟩
        rw [hn] at hO hlen ⊢
        have HNn := Lib.hid hn
        clear hn
        go_wp2_with (first | (at_builtin; (refine wpList_app8 w wr (by rfl) _ _ (by rfl) (.slice A n c) n (n + 1) xs k (by rfl) hO hB (by rfl) rfl (by omega) ?_; intro A2 c2 w2 hO2 hB2)) | fail)
        go_roundg (12 - (k + 1))
        case measure => omega
        case rel =>
          refine ⟨k + 1, A2, c2, by go_num, ?_, rfl, by omega, ?_, hB2⟩
          · rw [HS.out, List.length_append, HNn.out]; rfl
          · rw [HS.out, List.length_append, HNn.out]; exact hO2
      · have HS := Lib.hid (scrK_no (p := pos L) (k := k) (by rw [HP.out]; exact decide_eq_false hp))
        go_wp2_with fail
        go_roundg (12 - (k + 1))
        case measure => omega
        case rel => exact ⟨k + 1, A, c, by go_num, by rw [HS.out], rfl, by omega, by rw [HS.out]; exact hO, hB⟩
    · obtain rfl : k = 12 := by omega
      have hr := own_row hO
      go_wp2_with fail
      go_ret
      exact ⟨A, c, rfl, hr, hB⟩

/-! East Asian, together, the level. -/
theorem lits {W : World} {ks : List Int} : Row (W.alloc (.cells (cl .u8 ks).toArray 5)) (W.alloc (.cells (cl .u8 ks).toArray 5)).heap.size (some ⟨W.heap.size, 0, none⟩) (cl .u8 ks) := by
  rw [World.size_alloc]
  exact row_new W _ 5 _ rfl
set_option maxRecDepth 100000 in
set_option maxHeartbeats 1000000 in
theorem only_lit (L ks : List Int) (hL : L.length = 12) (hN : Nn L) (hk : ∀ k ∈ ks, 0 ≤ k ∧ k ≤ 11) (hl : ks.length ≤ 1000) (W : World) : Calls Tryd.prog 51 #[cv L, .slice (some ⟨W.heap.size, 0, none⟩) ks.length ks.length] (W.alloc (.cells (cl .u8 ks).toArray 5)) (IsB (only (pos L) ks) W) := by
  refine (only_any L ks hL hk _ ks.length ks.length _ rfl hl lits).mono ?_
  rintro e w' ⟨rfl, hB⟩
  rw [wo_zero hL hN]
  exact ⟨rfl, upB (upA W _) hB⟩
set_option maxRecDepth 100000 in
set_option maxHeartbeats 1000000 in
theorem east_any (L : List Int) (hL : L.length = 12) (hN : Nn L) (w : World) : Calls Tryd.prog 38 #[cv L] w (IsB (east (pos L)) w) := by
  have hB0 : Below w.heap.size w (w.alloc (.cells (cl .i64 L).toArray 43)) := upA w _
  have h0 := Cb.new w L
  have HL := Lib.hid hL
  have H1 : Hid (∀ W, Calls Tryd.prog 51 #[cv L, .slice (some ⟨W.heap.size, 0, none⟩) 3 3] (W.alloc (.cells #[.int .u8 8, .int .u8 9, .int .u8 10] 5)) (IsB (only (pos L) [8, 9, 10]) W)) := Lib.hid (fun W => only_lit L [8, 9, 10] hL hN (by decide) (by decide) W)
  have H2 : Hid (∀ W, Calls Tryd.prog 51 #[cv L, .slice (some ⟨W.heap.size, 0, none⟩) 2 2] (W.alloc (.cells #[.int .u8 8, .int .u8 11] 5)) (IsB (only (pos L) [8, 11]) W)) := Lib.hid (fun W => only_lit L [8, 11] hL hN (by decide) (by decide) W)
  unfold east
  generalize only (pos L) [8, 9, 10] = q1 at H1 ⊢
  generalize only (pos L) [8, 11] = q2 at H2 ⊢
  clear hL hN
  go_enter Tryd.func38, Tryd.ntmps38
  go_upto_region 1 with fail
  generalize w.alloc (.cells (cl .i64 L).toArray 43) = w1 at h0 hB0 ⊢
  cases q1 with
  | true =>
    go_wp2_with (first | (refine load_cnt _ rfl _ rfl L h0 HL.out rfl ?_) | (go_at_call 51; refine (H1.out _).mono ?_; rintro e w2 ⟨rfl, hB2⟩) | fail)
    go_ret
    exact ⟨rfl, upB hB0 hB2⟩
  | false =>
    go_wp2_with (first | (refine load_cnt _ rfl _ rfl L h2 HL.out rfl ?_) | (refine load_cnt _ rfl _ rfl L h0 HL.out rfl ?_) | (go_at_call 51; have h3 := h2; refine (H2.out _).mono ?_; rintro e w3 ⟨rfl, hB3⟩) | (go_at_call 51; refine (H1.out _).mono ?_; rintro e w2 ⟨rfl, hB2⟩; have h2 := h0.go hB2) | fail)
    go_ret
    exact ⟨rfl, upB (upB hB0 hB2) hB3⟩
set_option maxRecDepth 100000 in
set_option maxHeartbeats 1000000 in
theorem together_any (L : List Int) (hL : L.length = 12) (hN : Nn L) (w : World) : Calls Tryd.prog 37 #[cv L] w (IsB (tog (pos L)) w) := by
  have hB0 : Below w.heap.size w (w.alloc (.cells (cl .i64 L).toArray 43)) := upA w _
  have h0 := Cb.new w L
  have HL := Lib.hid hL
  have HS := Lib.hid (fun W => scripts_any L hL hN W)
  have HE := Lib.hid (fun W => east_any L hL hN W)
  have hb := scrK_len (pos L) 12
  change (scr (pos L)).length ≤ 12 at hb
  unfold tog
  generalize scr (pos L) = xs at HS hb ⊢
  generalize east (pos L) = q2 at HE ⊢
  have HX : Hid (∀ W e w', Row8 xs W e w' → ∃ A c, e = .returned (.slice A xs.length c) ∧ Below W.heap.size W w') := Lib.hid (fun W e w' ⟨A, c, h1, _, h3⟩ => ⟨A, c, h1, h3⟩)
  generalize xs.length = n at HX hb ⊢
  clear hL hN
  go_enter Tryd.func37, Tryd.ntmps37
  go_upto_region 1 with fail
  generalize w.alloc (.cells (cl .i64 L).toArray 43) = w1 at h0 hB0 ⊢
  by_cases hn : n ≤ 1
  · have hz : (n : Int) ≤ 1 := by omega
    have hd : decide (n ≤ 1) = true := decide_eq_true hn
    go_wp2_with (first | (refine load_cnt _ rfl _ rfl L h0 HL.out rfl ?_) | (go_at_call 21; refine (HS.out _).mono ?_; intro e w2 hr; obtain ⟨A, c, rfl, hB2⟩ := HX.out _ _ _ hr) | fail)
    go_ret
    exact ⟨by rw [hd]; rfl, upB hB0 hB2⟩
  · have hz : decide ((n : Int) ≤ 1) = false := decide_eq_false (by omega)
    have hd : decide (n ≤ 1) = false := decide_eq_false hn
    clear hn
    go_wp2_with (first | (refine load_cnt _ rfl _ rfl L h2 HL.out rfl ?_) | (refine load_cnt _ rfl _ rfl L h0 HL.out rfl ?_) | (go_at_call 21; refine (HS.out _).mono ?_; intro e w2 hr; obtain ⟨A, c, rfl, hB2⟩ := HX.out _ _ _ hr; have h2 := h0.go hB2) | (go_at_call 38; refine (HE.out _).mono ?_; rintro e w3 ⟨rfl, hB3⟩) | fail)
    go_ret
    exact ⟨by rw [hd]; rfl, upB (upB hB0 hB2) hB3⟩
theorem without_lit (L ks : List Int) (hL : L.length = 12) (hk : ∀ k ∈ ks, 0 ≤ k ∧ k ≤ 11) (hl : ks.length ≤ 1000) (W : World) : Calls Tryd.prog 35 #[cv L, .slice (some ⟨W.heap.size, 0, none⟩) ks.length ks.length] (W.alloc (.cells (cl .u8 ks).toArray 5)) (Tells (cv (wo L ks)) W) := by
  refine (without_any L ks hL hk _ ks.length ks.length _ rfl hl lits).mono ?_
  rintro e w' ⟨rfl, hB⟩
  exact ⟨rfl, upB (upA W _) hB⟩
theorem wo_east (L ks : List Int) (hL : L.length = 12) : east (pos (wo L ks)) = east (sub (pos L) ks) := east_congr fun _ h => pos_wo hL h
set_option maxRecDepth 100000 in
set_option maxHeartbeats 1000000 in
theorem level_any (L : List Int) (hL : L.length = 12) (hN : Nn L) (w : World) : Calls Tryd.prog 25 #[cv L] w (Tells (.int .u8 (lv (pos L))) w) := by
  have hB0 : Below w.heap.size w (w.alloc (.cells (cl .i64 L).toArray 43)) := upA w _
  have h0 := Cb.new w L
  have HL := Lib.hid hL
  have HT := Lib.hid (fun W => together_any L hL hN W)
  have HW : Hid (∀ W, Calls Tryd.prog 35 #[cv L, .slice (some ⟨W.heap.size, 0, none⟩) 1 1] (W.alloc (.cells #[.int .u8 2] 5)) (Tells (cv (wo L [2])) W)) := Lib.hid (fun W => without_lit L [2] hL (by decide) (by decide) W)
  have HE := Lib.hid (fun W => east_any (wo L [2]) (by rw [wo_len, hL]) (wo_nn hN _) W)
  rw [wo_east L [2] hL] at HE
  unfold lv
  generalize tog (pos L) = q1 at HT ⊢
  generalize east (sub (pos L) [2]) = q2 at HE ⊢
  generalize wo L [2] = M at HW HE
  clear hL hN
  go_enter Tryd.func25, Tryd.ntmps25
  go_upto_region 1 with fail
  generalize w.alloc (.cells (cl .i64 L).toArray 43) = w1 at h0 hB0 ⊢
  cases q1 with
  | true =>
    go_wp2_with (first | (refine load_cnt _ rfl _ rfl L h0 HL.out rfl ?_) | (go_at_call 37; refine (HT.out _).mono ?_; rintro e w2 ⟨rfl, hB2⟩) | fail)
    go_ret
    exact ⟨rfl, upB hB0 hB2⟩
  | false =>
    cases q2 with
    | true =>
      go_wp2_with (first | (refine load_cnt _ rfl _ rfl L h2 HL.out rfl ?_) | (refine load_cnt _ rfl _ rfl L h0 HL.out rfl ?_) | (go_at_call 37; refine (HT.out _).mono ?_; rintro e w2 ⟨rfl, hB2⟩; have h2 := h0.go hB2) | (go_at_call 35; refine (HW.out _).mono ?_; rintro e w3 ⟨rfl, hB3⟩) | (go_at_call 38; refine (HE.out _).mono ?_; rintro e w4 ⟨rfl, hB4⟩) | fail)
      go_ret
      exact ⟨rfl, upB (upB (upB hB0 hB2) hB3) hB4⟩
    | false =>
      go_wp2_with (first | (refine load_cnt _ rfl _ rfl L h2 HL.out rfl ?_) | (refine load_cnt _ rfl _ rfl L h0 HL.out rfl ?_) | (go_at_call 37; refine (HT.out _).mono ?_; rintro e w2 ⟨rfl, hB2⟩; have h2 := h0.go hB2) | (go_at_call 35; refine (HW.out _).mono ?_; rintro e w3 ⟨rfl, hB3⟩) | (go_at_call 38; refine (HE.out _).mono ?_; rintro e w4 ⟨rfl, hB4⟩) | fail)
      go_ret
      exact ⟨rfl, upB (upB (upB hB0 hB2) hB3) hB4⟩
end Go.Proofs.YtjpmecdjlodaoaaDoor.Mix
