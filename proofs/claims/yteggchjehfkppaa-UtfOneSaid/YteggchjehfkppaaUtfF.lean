/-
  The contracts of utf.Codes, utf.Decode, utf.Valid.
-/
import Derived.Test.YteggchjehfkppaaUtfE
namespace Go.Proofs.Yteggchjehfkppaa
open Go.RowKit Go.Shelf Utf

attribute [local go_sem] Oper.semAt_some

theorem info_cd : (Try.prog.info? 37).map (fun i => (i.zero, i.size, i.bytes)) = some (some (.agg #[.int .i32 0, .int .i64 0, .int .i64 0]), 3, 24) := by kernel_rfl
theorem info_i32 : (Try.prog.info? 21).map (fun i => (i.zero, i.size, i.bytes)) = some (some (.int .i32 0), 1, 4) := by kernel_rfl

/-- codes as cells -/
def cdc (l : List Cd) : List Value := l.flatMap fun x => [.int .i32 x.1, .int .i64 (x.2.1 : Int), .int .i64 (x.2.2.1 : Int)]

theorem cdc_len (l : List Cd) : (cdc l).length = l.length * 3 := by
  induction l with
  | nil => rfl
  | cons x l ih => simp [cdc] at ih ⊢; omega
theorem cdc_snoc (l : List Cd) (x : Cd) : cdc (l ++ [x]) = cdc l ++ [.int .i32 x.1, .int .i64 (x.2.1 : Int), .int .i64 (x.2.2.1 : Int)] := by simp [cdc]

/-- a block of cells abides the turn of a block that is none -/
theorem blk_own {β : Type} (B : Nat) (t : TypeId) (f : β → Array Value) : Own (fun s W => W.heap[B]? = some (.cells (f s) t (0, 0))) := fun s X Y row hs hg hrow =>
  (hg.block B (Array.getElem?_eq_some_iff.1 hs).1 (fun e => by
    obtain ⟨o, ho, hc⟩ := hrow B e.symm
    have hs' : X.heap[B]? = some (.cells (f s) t (0, 0)) := hs
    rw [hs'] at ho
    cases ho
    cases hc)).trans hs
/-- another box behind an append to the row that one box holds -/
theorem box_after {W w1 : World} {n₀ B B' : Nat} {t' e : TypeId} {size : Nat} {v v' u : Value} {k : Nat} {xs : List Value} {tmp : Obj}
    (hb : Boxed W B' t' u) (hte : t' ≠ e) (hrow : W.ownsRow n₀ e size v k xs) (hgrow : (W.alloc tmp).grownBy w1 v.ownBlock) (hne : B' ≠ B) : Boxed (w1.setCell ⟨B, 0, none⟩ v') B' t' u :=
  ((hb.alloc tmp).kept hgrow (hb.not_row hte hrow)).other hne v'

def CodesI (w : World) (sv : Value) (pre : List Cd) (W : World) : Prop :=
  ((∃ v, Boxed W w.heap.size 27 v ∧ W.ownsRow w.heap.size 37 3 v pre.length (cdc pre) ∧ True) ∧ Boxed W (w.heap.size + 1) 22 sv) ∧ Below w.heap.size w W

def MadeCodes (bs : List Int) (w : World) (e : Ending) (w' : World) : Prop :=
  ∃ v, e = .returned v ∧ w'.ownsRow w.heap.size 37 3 v (codes bs).length (cdc (codes bs)) ∧ Below w.heap.size w w'

set_option maxRecDepth 100000 in
set_option maxHeartbeats 2000000 in
theorem Codes_in (n : Nat) (hn : 3 ≤ n) (bs : List Int) (A : Option Addr) (len cap : Nat) (w : World) (hlen : bs.length = len) (hcap : len ≤ cap) (hm : len ≤ 100000) (hbyt : Byt bs) (hr : Row w w.heap.size A (cl .u8 bs)) :
    CallsIn Fence.wide n Try.prog 13 #[.slice A len cap] w (MadeCodes bs w) := by
  have h1 : 1 ≤ n := by omega
  obtain ⟨i0, hi, hz0, hz1, hz2⟩ := info_parts info_cd
  have HL := Lib.hid hlen
  clear hlen
  refine callsIn_of_wp_marks Try.func13 rfl trivial ?_ rfl
  simp only [Try.ntmps13, List.size_toArray, List.length_cons, List.length_nil, Nat.reduceAdd, Nat.reduceSub, Array.replicate_succ, Array.replicate_zero, List.push_toArray, List.append_toArray, List.nil_append, List.cons_append]
  gi_wp2_with (refine ⟨trivial, ?_⟩; gi_at_call 23; refine (divide_any _ _ _ _ _).mono ?_; rintro e w' ⟨rfl, rfl⟩)
  have bO := (Boxed.new w 27 (.slice none 0 0)).alloc (.cells #[.slice A len cap] 22)
  have bN := Boxed.new (w.alloc (.cells #[.slice none 0 0] 27)) 22 (.slice A len cap)
  rw [World.size_alloc] at bN
  have hB0 : Below w.heap.size w ((w.alloc (.cells #[.slice none 0 0] 27)).alloc (.cells #[.slice A len cap] 22)) := ((Below.refl _ w).alloc (Nat.le_refl _) _).alloc (by simp) _
  have hsz : ((w.alloc (.cells #[.slice none 0 0] 27)).alloc (.cells #[.slice A len cap] 22)).heap.size = w.heap.size + 2 := by simp
  obtain ⟨W0, hW0⟩ : ∃ W0, (w.alloc (.cells #[.slice none 0 0] 27)).alloc (.cells #[.slice A len cap] 22) = W0 := ⟨_, rfl⟩
  rw [hW0] at bO bN hB0 hsz ⊢
  clear hW0
  refine wpIn_rangeFunc_ownH (F := Fence.wide) rfl h1 (gf := 29) (lb := #[.pointer (some ⟨w.heap.size + 1, 0, none⟩)]) rfl trivial (enters_of Try.func29 (by kernel_rfl) rfl)
    (divide_stops (n - 1) (by omega) (w.heap.size + 1) w.heap.size A len cap bs HL.out hcap hm hbyt W0 bN (hr.below hB0) hB0.size) KpB.t (KpB.b (by omega) (by omega)) (Below.refl _ _) (fun _ => rfl)
    (CodesI w (.slice A len cap))
    (fun _ _ _ => False)
    (OwnFrom.and (OwnFrom.and (Own.from (holdsRow_own w.heap.size w.heap.size 27 37 3 (fun pre => pre.length) cdc (fun _ _ => True)) _) (Own.from (boxed_own _ _ _) _)) (ownFrom_below (Nat.le_refl _) (by omega)))
    (fun _ _ _ _ _ hs _ _ => hs)
    ⟨⟨⟨_, bO, World.ownsRow_nil _ _ _ _, trivial⟩, bN⟩, hB0⟩
    (fun x a' W => ∃ Bx, w.heap.size + 1 < Bx ∧ W.heap[Bx]? = some (.cells #[.int .i32 x.1, .int .i64 (x.2.1 : Int), .int .i64 (x.2.2.1 : Int)] 37 (0, 0)) ∧ a' = { tmps := #[.slice A len cap, undef, .slice none 0 0, .pointer (some ⟨w.heap.size, 0, none⟩), .pointer (some ⟨Bx, 0, none⟩), .slice A len cap, .func (.func 29) #[] #[.pointer (some ⟨w.heap.size + 1, 0, none⟩)], .agg #[.int .i32 x.1, .int .i64 (x.2.1 : Int), .int .i64 (x.2.2.1 : Int)], .bool x.2.2.2, undef, undef, undef, undef, undef], defers := [] })
    (fun x a' _ X Y row hs hg hr => by obtain ⟨Bx, h1, h2, h3⟩ := hs; exact ⟨Bx, h1, blk_own Bx 37 (fun (_ : Unit) => #[.int .i32 x.1, .int .i64 (x.2.1 : Int), .int .i64 (x.2.2.1 : Int)]) () X Y row h2 hg (fun r e => (hr r e).2), h3⟩)
    ?assign ?body ?done ?stop
  case assign =>
    rintro l pre x W K ⟨⟨⟨v, hv, hrow, _⟩, hbN⟩, hB1⟩ hK
    have hsW := hB1.size
    have hlt := hbN.lt
    simp only [encs]
    gi_wp2
    exact hK _ _ ((KeepsOthers.alloc _ _).from _) ⟨(Below.refl _ W).alloc hsW _, Below.heap_alloc _ _ _ hlt⟩ ⟨⟨⟨v, hv.alloc _, hrow.alloc _, trivial⟩, hbN.alloc _⟩, hB1.alloc hsW _⟩ ⟨W.heap.size, hlt, World.alloc_heap_new W _, rfl⟩
  case body =>
    rintro l pre x a' W hl ⟨r, hr⟩ ⟨⟨⟨v, hv, hrow, _⟩, hbN⟩, hB1⟩ ⟨Bx, hBx, bX, rfl⟩ hlt
    have hc := hv.cell
    have c0 : W.cell? ⟨Bx, 0, none⟩ = some (.int .i32 x.1) := by simp [World.cell?, bX]
    have c1 : W.cell? ⟨Bx, 1, none⟩ = some (.int .i64 (x.2.1 : Int)) := by simp [World.cell?, bX]
    have c2 : W.cell? ⟨Bx, 2, none⟩ = some (.int .i64 (x.2.2.1 : Int)) := by simp [World.cell?, bX]
    rw [HL.out] at hlt
    have hsW := hB1.size
    gi_wp2_with (gi_at_builtin; refine wpListIn_append_own _ rfl _ _ 27 rfl w.heap.size 37 i0 (.agg #[.int .i32 0, .int .i64 0, .int .i64 0]) 3 24 Try.underlying27 hi hz0 hz1 hz2 rfl (by decide) _ _ _ rfl (hrow.alloc _) ⟨W.heap.size, 0, none⟩ 1 1 _ rfl (by rfl) (news_new _ _ _ _ rfl) (by simp [Value.oneCell']) (by unfold maxLen; omega) (by omega) (by simp; omega) ?_; intro v' w1 hown' hgrow _; obtain ⟨g', cap', rfl⟩ := ownsRow_succ hown'; obtain ⟨hv1, hv2, hr2, hk2, hb2⟩ := hv.appended (by decide) hrow hB1.size (Nat.le_refl _) hown' hgrow; have hbx := box_after (B := w.heap.size) (v' := .slice (some ⟨g', 0, none⟩) (pre.length + 1) cap') hbN (by decide) hrow hgrow (by omega); have hc1 := hv1.cell; have hf1 := hv1.frozen)
    exact ⟨hk2.from _, ⟨hb2, hbx.trans hbN.symm⟩, ⟨⟨⟨_, hv2, by rw [cdc_snoc, List.length_append]; exact hr2, trivial⟩, hbx⟩, hB1.trans hb2⟩⟩
  case done =>
    rintro D ys W hD rfl ⟨⟨⟨v, hv, hrow, _⟩, hbN⟩, hB1⟩ hK
    have hc := hv.cell
    gi_wp2
    refine ⟨by simp, .inl ⟨_, _, rfl, run_takeDeferred hK, ?_⟩⟩
    exact ⟨_, results_tmp rfl _ _ _, v, rfl, ownsRow_putObj hrow _ hK rfl, hB1.trans (belowK_b (w := w) (Nat.le_refl _) W D _ _ (by omega) hK rfl rfl)⟩
  case stop =>
    rintro D c pre W _ _ h _
    exact h.elim

def DecI (w : World) (sv : Value) (pre : List Cd) (W : World) : Prop :=
  ((∃ v, Boxed W w.heap.size 23 v ∧ W.ownsRow w.heap.size 21 1 v pre.length (cl .i32 (pre.map (·.1))) ∧ True) ∧ Boxed W (w.heap.size + 1) 22 sv) ∧ Below w.heap.size w W

def MadeRunes (l : List Int) (w : World) (e : Ending) (w' : World) : Prop :=
  ∃ v, e = .returned v ∧ w'.ownsRow w.heap.size 21 1 v l.length (cl .i32 l) ∧ Below w.heap.size w w'

set_option maxRecDepth 100000 in
set_option maxHeartbeats 2000000 in
theorem Decode_in (n : Nat) (hn : 3 ≤ n) (bs : List Int) (A : Option Addr) (len cap : Nat) (w : World) (hlen : bs.length = len) (hcap : len ≤ cap) (hm : len ≤ 100000) (hbyt : Byt bs) (hr : Row w w.heap.size A (cl .u8 bs)) :
    CallsIn Fence.wide n Try.prog 16 #[.slice A len cap] w (MadeRunes (dec bs) w) := by
  have h1 : 1 ≤ n := by omega
  obtain ⟨i0, hi, hz0, hz1, hz2⟩ := info_parts info_i32
  have HL := Lib.hid hlen
  clear hlen
  refine callsIn_of_wp_marks Try.func16 rfl trivial ?_ rfl
  simp only [Try.ntmps16, List.size_toArray, List.length_cons, List.length_nil, Nat.reduceAdd, Nat.reduceSub, Array.replicate_succ, Array.replicate_zero, List.push_toArray, List.append_toArray, List.nil_append, List.cons_append]
  gi_wp2_with (refine ⟨trivial, ?_⟩; gi_at_call 23; refine (divide_any _ _ _ _ _).mono ?_; rintro e w' ⟨rfl, rfl⟩)
  have bO := (Boxed.new w 23 (.slice none 0 0)).alloc (.cells #[.slice A len cap] 22)
  have bN := Boxed.new (w.alloc (.cells #[.slice none 0 0] 23)) 22 (.slice A len cap)
  rw [World.size_alloc] at bN
  have hB0 : Below w.heap.size w ((w.alloc (.cells #[.slice none 0 0] 23)).alloc (.cells #[.slice A len cap] 22)) := ((Below.refl _ w).alloc (Nat.le_refl _) _).alloc (by simp) _
  have hsz : ((w.alloc (.cells #[.slice none 0 0] 23)).alloc (.cells #[.slice A len cap] 22)).heap.size = w.heap.size + 2 := by simp
  obtain ⟨W0, hW0⟩ : ∃ W0, (w.alloc (.cells #[.slice none 0 0] 23)).alloc (.cells #[.slice A len cap] 22) = W0 := ⟨_, rfl⟩
  rw [hW0] at bO bN hB0 hsz ⊢
  clear hW0
  refine wpIn_rangeFunc_ownH (F := Fence.wide) rfl h1 (gf := 29) (lb := #[.pointer (some ⟨w.heap.size + 1, 0, none⟩)]) rfl trivial (enters_of Try.func29 (by kernel_rfl) rfl)
    (divide_stops (n - 1) (by omega) (w.heap.size + 1) w.heap.size A len cap bs HL.out hcap hm hbyt W0 bN (hr.below hB0) hB0.size) KpB.t (KpB.b (by omega) (by omega)) (Below.refl _ _) (fun _ => rfl)
    (DecI w (.slice A len cap))
    (fun _ _ _ => False)
    (OwnFrom.and (OwnFrom.and (Own.from (holdsRow_own w.heap.size w.heap.size 23 21 1 (fun pre : List Cd => pre.length) (fun pre : List Cd => cl .i32 (pre.map (·.1))) (fun _ _ => True)) _) (Own.from (boxed_own _ _ _) _)) (ownFrom_below (Nat.le_refl _) (by omega)))
    (fun _ _ _ _ _ hs _ _ => hs)
    ⟨⟨⟨_, bO, World.ownsRow_nil _ _ _ _, trivial⟩, bN⟩, hB0⟩
    (fun x a' W => ∃ Bx, w.heap.size + 1 < Bx ∧ W.heap[Bx]? = some (.cells #[.int .i32 x.1, .int .i64 (x.2.1 : Int), .int .i64 (x.2.2.1 : Int)] 37 (0, 0)) ∧ a' = { tmps := #[.slice A len cap, undef, .slice none 0 0, .pointer (some ⟨w.heap.size, 0, none⟩), .pointer (some ⟨Bx, 0, none⟩), .slice A len cap, .func (.func 29) #[] #[.pointer (some ⟨w.heap.size + 1, 0, none⟩)], .agg #[.int .i32 x.1, .int .i64 (x.2.1 : Int), .int .i64 (x.2.2.1 : Int)], .bool x.2.2.2, undef, undef, undef, undef, undef, undef], defers := [] })
    (fun x a' _ X Y row hs hg hr => by obtain ⟨Bx, h1, h2, h3⟩ := hs; exact ⟨Bx, h1, blk_own Bx 37 (fun (_ : Unit) => #[.int .i32 x.1, .int .i64 (x.2.1 : Int), .int .i64 (x.2.2.1 : Int)]) () X Y row h2 hg (fun r e => (hr r e).2), h3⟩)
    ?assign ?body ?done ?stop
  case assign =>
    rintro l pre x W K ⟨⟨⟨v, hv, hrow, _⟩, hbN⟩, hB1⟩ hK
    have hsW := hB1.size
    have hlt := hbN.lt
    simp only [encs]
    gi_wp2
    exact hK _ _ ((KeepsOthers.alloc _ _).from _) ⟨(Below.refl _ W).alloc hsW _, Below.heap_alloc _ _ _ hlt⟩ ⟨⟨⟨v, hv.alloc _, hrow.alloc _, trivial⟩, hbN.alloc _⟩, hB1.alloc hsW _⟩ ⟨W.heap.size, hlt, World.alloc_heap_new W _, rfl⟩
  case body =>
    rintro l pre x a' W hl ⟨r, hr⟩ ⟨⟨⟨v, hv, hrow, _⟩, hbN⟩, hB1⟩ ⟨Bx, hBx, bX, rfl⟩ hlt
    have hc := hv.cell
    have c0 : W.cell? ⟨Bx, 0, none⟩ = some (.int .i32 x.1) := by simp [World.cell?, bX]
    rw [HL.out] at hlt
    have hsW := hB1.size
    gi_wp2_with (gi_at_builtin; refine wpListIn_append_own _ rfl _ _ 23 rfl w.heap.size 21 i0 (.int .i32 0) 1 4 Try.underlying23 hi hz0 hz1 hz2 rfl (by decide) _ _ _ rfl (hrow.alloc _) ⟨W.heap.size, 0, none⟩ 1 1 _ rfl (by rfl) (news_new _ _ _ _ rfl) (by simp [Value.oneCell']) (by unfold maxLen; omega) (by omega) (by simp; omega) ?_; intro v' w1 hown' hgrow _; obtain ⟨g', cap', rfl⟩ := ownsRow_succ hown'; obtain ⟨hv1, hv2, hr2, hk2, hb2⟩ := hv.appended (by decide) hrow hB1.size (Nat.le_refl _) hown' hgrow; have hbx := box_after (B := w.heap.size) (v' := .slice (some ⟨g', 0, none⟩) (pre.length + 1) cap') hbN (by decide) hrow hgrow (by omega); have hc1 := hv1.cell; have hf1 := hv1.frozen)
    exact ⟨hk2.from _, ⟨hb2, hbx.trans hbN.symm⟩, ⟨⟨⟨_, hv2, by simpa using hr2, trivial⟩, hbx⟩, hB1.trans hb2⟩⟩
  case done =>
    rintro D ys W hD rfl ⟨⟨⟨v, hv, hrow, _⟩, hbN⟩, hB1⟩ hK
    have hc := hv.cell
    gi_wp2
    refine ⟨by simp, .inl ⟨_, _, rfl, run_takeDeferred hK, ?_⟩⟩
    exact ⟨_, results_tmp rfl _ _ _, v, rfl, by unfold dec; rw [List.length_map]; exact ownsRow_putObj hrow _ hK rfl, hB1.trans (belowK_b (w := w) (Nat.le_refl _) W D _ _ (by omega) hK rfl rfl)⟩
  case stop =>
    rintro D c pre W _ _ h _
    exact h.elim

def ValI (w : World) (sv : Value) (pre : List Cd) (W : World) : Prop :=
  ((pre.all (·.2.2.2) = true ∧ Boxed W w.heap.size 4 (.bool false)) ∧ Boxed W (w.heap.size + 1) 22 sv) ∧ Below w.heap.size w W
def ValX (w : World) (c : Code) (pre : List Cd) (W : World) : Prop :=
  ((c = .ret ∧ ∃ x ∈ pre, x.2.2.2 = false) ∧ Boxed W w.heap.size 4 (.bool false)) ∧ Below w.heap.size w W

def IsBool (b : Bool) (w : World) (e : Ending) (w' : World) : Prop := e = .returned (.bool b) ∧ Below w.heap.size w w'

theorem valid_no {bs : List Int} {pre : List Cd} (h : pre <+: codes bs) {x : Cd} (hx : x ∈ pre) (hf : x.2.2.2 = false) : valid bs = false := by
  unfold valid
  rw [List.all_eq_false]
  exact ⟨x, h.subset hx, by simp [hf]⟩

set_option maxRecDepth 100000 in
set_option maxHeartbeats 2000000 in
theorem Valid_in (n : Nat) (hn : 3 ≤ n) (bs : List Int) (A : Option Addr) (len cap : Nat) (w : World) (hlen : bs.length = len) (hcap : len ≤ cap) (hm : len ≤ 100000) (hbyt : Byt bs) (hr : Row w w.heap.size A (cl .u8 bs)) :
    CallsIn Fence.wide n Try.prog 21 #[.slice A len cap] w (IsBool (valid bs) w) := by
  have h1 : 1 ≤ n := by omega
  have HL := Lib.hid hlen
  clear hlen
  refine callsIn_of_wp_marks Try.func21 rfl trivial ?_ rfl
  simp only [Try.ntmps21, List.size_toArray, List.length_cons, List.length_nil, Nat.reduceAdd, Nat.reduceSub, Array.replicate_succ, Array.replicate_zero, List.push_toArray, List.append_toArray, List.nil_append, List.cons_append]
  gi_wp2_with (refine ⟨trivial, ?_⟩; gi_at_call 23; refine (divide_any _ _ _ _ _).mono ?_; rintro e w' ⟨rfl, rfl⟩)
  have bO := (Boxed.new w 4 (.bool false)).alloc (.cells #[.slice A len cap] 22)
  have bN := Boxed.new (w.alloc (.cells #[.bool false] 4)) 22 (.slice A len cap)
  rw [World.size_alloc] at bN
  have hB0 : Below w.heap.size w ((w.alloc (.cells #[.bool false] 4)).alloc (.cells #[.slice A len cap] 22)) := ((Below.refl _ w).alloc (Nat.le_refl _) _).alloc (by simp) _
  have hsz : ((w.alloc (.cells #[.bool false] 4)).alloc (.cells #[.slice A len cap] 22)).heap.size = w.heap.size + 2 := by simp
  obtain ⟨W0, hW0⟩ : ∃ W0, (w.alloc (.cells #[.bool false] 4)).alloc (.cells #[.slice A len cap] 22) = W0 := ⟨_, rfl⟩
  rw [hW0] at bO bN hB0 hsz ⊢
  clear hW0
  refine wpIn_rangeFunc_ownH (F := Fence.wide) rfl h1 (gf := 29) (lb := #[.pointer (some ⟨w.heap.size + 1, 0, none⟩)]) rfl trivial (enters_of Try.func29 (by kernel_rfl) rfl)
    (divide_stops (n - 1) (by omega) (w.heap.size + 1) w.heap.size A len cap bs HL.out hcap hm hbyt W0 bN (hr.below hB0) hB0.size) KpB.t (KpB.b (by omega) (by omega)) (Below.refl _ _) (fun _ => rfl)
    (ValI w (.slice A len cap))
    (ValX w)
    (OwnFrom.and (OwnFrom.and (OwnFrom.and (ownFrom_pure _ _) (Own.from (boxed_own _ _ _) _)) (Own.from (boxed_own _ _ _) _)) (ownFrom_below (Nat.le_refl _) (by omega)))
    (fun c => OwnFrom.and (OwnFrom.and (ownFrom_pure _ _) (Own.from (boxed_own _ _ _) _)) (ownFrom_below (Nat.le_refl _) (by omega)))
    ⟨⟨⟨rfl, bO⟩, bN⟩, hB0⟩
    (fun x a' _ => a' = { tmps := #[.slice A len cap, undef, .pointer (some ⟨w.heap.size, 0, none⟩), undef, .bool x.2.2.2, .slice A len cap, .func (.func 29) #[] #[.pointer (some ⟨w.heap.size + 1, 0, none⟩)], .agg #[.int .i32 x.1, .int .i64 (x.2.1 : Int), .int .i64 (x.2.2.1 : Int)], .bool x.2.2.2, undef, undef], defers := [] })
    (fun _ _ _ _ _ _ hs _ _ => hs)
    ?assign ?body ?done ?stop
  case assign =>
    rintro l pre x W K hI hK
    simp only [encs]
    gi_wp2
    exact hK _ _ (KeepsFrom.refl _ _) ⟨Below.refl _ _, rfl⟩ hI rfl
  case body =>
    rintro l pre ⟨x1, x2, x3, ok⟩ a' W hl ⟨r, hr⟩ ⟨⟨⟨hall, hv⟩, hbN⟩, hB1⟩ rfl hlt
    have hc := hv.cell
    have hf := hv.frozen
    have HA := Lib.hid hall
    clear hall
    cases ok with
    | true =>
      gi_wp2
      exact ⟨KeepsFrom.refl _ _, ⟨Below.refl _ _, rfl⟩, ⟨⟨⟨by rw [List.all_append, HA.out]; rfl, hv⟩, hbN⟩, hB1⟩⟩
    | false =>
      gi_wp2
      exact ⟨(KeepsOthers.setCell _ _ _).from _, ⟨⟨rfl, _, List.mem_append.2 (.inr (List.mem_singleton.2 rfl)), rfl⟩, hv.set _⟩, hB1.setCell (p := ⟨w.heap.size, 0, none⟩) (Nat.le_refl _) _⟩
  case done =>
    rintro D ys W hD rfl ⟨⟨⟨hall, hv⟩, hbN⟩, hB1⟩ hK
    have hc := hv.cell
    have hf := hv.frozen
    have HA := Lib.hid hall
    clear hall
    gi_wp2
    have hK' := (KeepsOthers.setCell W ⟨w.heap.size, 0, none⟩ (.bool true)).same D _ hK rfl
    refine ⟨by simp, .inl ⟨_, _, rfl, run_takeDeferred hK', ?_⟩⟩
    have hb5 := cell_kept (hv.set (.bool true)).cell (grownBy_putObj' _ D (.deferred none)) (fun r e => by cases e; exact ⟨_, hK', rfl⟩)
    refine ⟨.bool true, by simp [results, Try.f21, go_sem, hb5], ⟨by unfold valid; rw [HA.out], ?_⟩⟩
    exact (hB1.setCell (p := ⟨w.heap.size, 0, none⟩) (Nat.le_refl _) _).trans (belowK_b (w := w) (Nat.le_refl _) _ D _ _ (by omega) hK' rfl rfl)
  case stop =>
    rintro D c pre W hD hpre ⟨⟨⟨rfl, x, hx, hxf⟩, hv⟩, hB1⟩ hK
    have hc := hv.cell
    gi_wp2
    refine ⟨by simp, .inl ⟨_, _, rfl, run_takeDeferred hK, ?_⟩⟩
    have hb5 := cell_kept hv.cell (grownBy_putObj' _ D (.deferred none)) (fun r e => by cases e; exact ⟨_, hK, rfl⟩)
    refine ⟨.bool false, by simp [results, Try.f21, go_sem, hb5], ⟨by rw [valid_no hpre hx hxf], ?_⟩⟩
    exact hB1.trans (belowK_b (w := w) (Nat.le_refl _) W D _ _ (by omega) hK rfl rfl)

theorem Codes_any (bs : List Int) (A : Option Addr) (len cap : Nat) (w : World) (hlen : bs.length = len) (hcap : len ≤ cap) (hm : len ≤ 100000) (hbyt : Byt bs) (hr : Row w w.heap.size A (cl .u8 bs)) :
    Calls Try.prog 13 #[.slice A len cap] w (MadeCodes bs w) := callsIn_wide.1 (Codes_in 3 (by omega) bs A len cap w hlen hcap hm hbyt hr)
theorem Decode_any (bs : List Int) (A : Option Addr) (len cap : Nat) (w : World) (hlen : bs.length = len) (hcap : len ≤ cap) (hm : len ≤ 100000) (hbyt : Byt bs) (hr : Row w w.heap.size A (cl .u8 bs)) :
    Calls Try.prog 16 #[.slice A len cap] w (MadeRunes (dec bs) w) := callsIn_wide.1 (Decode_in 3 (by omega) bs A len cap w hlen hcap hm hbyt hr)
theorem Valid_any (bs : List Int) (A : Option Addr) (len cap : Nat) (w : World) (hlen : bs.length = len) (hcap : len ≤ cap) (hm : len ≤ 100000) (hbyt : Byt bs) (hr : Row w w.heap.size A (cl .u8 bs)) :
    Calls Try.prog 21 #[.slice A len cap] w (IsBool (valid bs) w) := callsIn_wide.1 (Valid_in 3 (by omega) bs A len cap w hlen hcap hm hbyt hr)

end Go.Proofs.Yteggchjehfkppaa
