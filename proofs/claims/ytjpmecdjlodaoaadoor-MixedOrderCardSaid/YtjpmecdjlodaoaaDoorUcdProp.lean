/-
  The contracts of ucd.first, ucd.last, ucd.prop at a row's text.
-/
import Derived.Test.YtjpmecdjlodaoaaDoorUcdRow
import Derived.Test.YtjpmecdjlodaoaaDoorUcdFind
import Derived.Deep.RegionHeld3
import Derived.Laws.CopyOwn
namespace Go.Proofs.YtjpmecdjlodaoaaDoor
open Go.RowKit Ucd

theorem bst_col (l : List UInt8) (a b : Nat) : (bst l).extract a b = bst (col l a (b - a)) := Lib.extract_mk l a b
theorem col_len (l : List UInt8) (a n : Nat) (h : n ≤ 52) : (col l a n).length ≤ 1000 := by
  unfold col
  rw [List.length_take]
  omega

set_option maxRecDepth 100000 in
set_option maxHeartbeats 400000 in
theorem first_gen (l : List UInt8) (w : World) (hl : l.length = 52) (hn : isNum 16 (dcol l 0 4) = true) :
    Calls Tryd.prog 32 #[.string (bst l)] w fun e w' => e = .returned (.int .i32 (num 16 0 (dcol l 0 4))) ∧ Below w.heap.size w w' := by
  have hs : (bst l).size = 52 := by rw [bst_size, hl]
  have hx : (bst l).extract 0 4 = bst (col l 0 4) := bst_col l 0 4
  have HN := Lib.hid (number16 (col l 0 4) w (col_len _ _ _ (by omega)) hn)
  have hb := num_small (by decide) hn
  change Hid (Calls _ _ _ _ fun e w' => e = .returned (.int .i64 (num 16 0 (dcol l 0 4) : Nat)) ∧ _) at HN
  clear hl
  obtain ⟨t, ht⟩ : ∃ t, bst l = t := ⟨_, rfl⟩
  rw [ht] at hs hx ⊢
  clear ht
  obtain ⟨n, hn'⟩ : ∃ n : Int, n = (num 16 0 (dcol l 0 4) : Nat) := ⟨_, rfl⟩
  rw [← hn'] at HN ⊢
  have n0 : 0 ≤ n := by omega
  have n1 : n < 65536 := by omega
  clear hn hb hn'
  go_enter Tryd.func32, Tryd.ntmps32
  go_wp2_with (go_at_call 44; ((with_reducible refine (Hid.out HN).mono ?_); rintro e w' ⟨rfl, hb⟩))
  go_ret
  exact ⟨rfl, hb⟩

set_option maxRecDepth 100000 in
set_option maxHeartbeats 400000 in
theorem last_gen (l : List UInt8) (w : World) (hl : l.length = 52) (hn : isNum 16 (dcol l 5 4) = true) :
    Calls Tryd.prog 33 #[.string (bst l)] w fun e w' => e = .returned (.int .i32 (num 16 0 (dcol l 5 4))) ∧ Below w.heap.size w w' := by
  have hs : (bst l).size = 52 := by rw [bst_size, hl]
  have hx : (bst l).extract 5 9 = bst (col l 5 4) := bst_col l 5 9
  have HN := Lib.hid (number16 (col l 5 4) w (col_len _ _ _ (by omega)) hn)
  have hb := num_small (by decide) hn
  change Hid (Calls _ _ _ _ fun e w' => e = .returned (.int .i64 (num 16 0 (dcol l 5 4) : Nat)) ∧ _) at HN
  clear hl
  obtain ⟨t, ht⟩ : ∃ t, bst l = t := ⟨_, rfl⟩
  rw [ht] at hs hx ⊢
  clear ht
  obtain ⟨n, hn'⟩ : ∃ n : Int, n = (num 16 0 (dcol l 5 4) : Nat) := ⟨_, rfl⟩
  rw [← hn'] at HN ⊢
  have n0 : 0 ≤ n := by omega
  have n1 : n < 65536 := by omega
  clear hn hb hn'
  go_enter Tryd.func33, Tryd.ntmps33
  go_wp2_with (go_at_call 44; ((with_reducible refine (Hid.out HN).mono ?_); rintro e w' ⟨rfl, hb⟩))
  go_ret
  exact ⟨rfl, hb⟩

/-- what stays while prop works: its own new block, and all that was below -/
def PS (w w' : World) : Prop := Below w.heap.size w w' ∧ ∃ cs, cs.size = 7 ∧ w'.heap[w.heap.size]? = some (.cells cs 35 (0, 0))
theorem PS.go {w a b : World} (h : PS w a) (hb : Below a.heap.size a b) : PS w b := by
  obtain ⟨h1, cs, h2, h3⟩ := h
  exact ⟨h1.trans (hb.mono h1.size), cs, h2, (hb.block _ (Array.getElem?_eq_some_iff.1 h3).1).trans h3⟩
theorem PS.start (w : World) : PS w (w.alloc (.cells #[.int .u8 0, .int .u8 0, .int .u8 0, .int .u8 0, .int .u8 0, .int .u8 0, .int .u8 0] 35)).drew :=
  ⟨((Below.refl _ w).alloc (Nat.le_refl _) _).drew, _, rfl, World.alloc_heap_new w _⟩
theorem PS.set {w a : World} (h : PS w a) (k : Nat) (v : Value) : PS w (a.setCell ⟨w.heap.size, k, none⟩ v) := by
  obtain ⟨h1, old, h2, h3⟩ := h
  rw [setCell_eq_setRow a _ k old _ _ v h3]
  exact ⟨below_setRow h1 (Nat.le_refl _) _, _, by simpa using h2, setRow_heap a _ old _ _ _ h3⟩
/-- what the new block holds at a place -/
def cc (w' : World) (N k : Nat) : Value := (w'.cell? ⟨N, k, none⟩).getD undef
theorem PS.cell {w a : World} (h : PS w a) (k : Nat) (hk : k < 7) : a.cell? ⟨w.heap.size, k, none⟩ = some (cc a w.heap.size k) := by
  obtain ⟨h1, old, h2, h3⟩ := h
  unfold cc
  simp only [World.cell?, h3]
  have : k < old.size := by omega
  simp [this]
theorem PS.frozen {w a : World} (h : PS w a) (k : Nat) : a.frozen? ⟨w.heap.size, k, none⟩ = false := by
  obtain ⟨h1, old, h2, h3⟩ := h
  simp [World.frozen?, h3]

set_option maxRecDepth 100000 in
set_option maxHeartbeats 2000000 in
theorem prop_gen (l : List UInt8) (w : World) (hl : l.length = 52) (hk : readOk l = true) :
    Calls Tryd.prog 34 #[.string (bst l)] w fun e w' => e = .returned (.agg #[.int .u8 (categoryF (ncol l 10 7) : Nat), .int .u8 (bidiF (ncol l 18 3) : Nat), .int .u8 (joinF (ncol l 22 5) : Nat), .int .u8 (num 10 0 (dcol l 28 3) : Nat), .int .u8 (scriptF (ncol l 32 10) : Nat), .int .u8 (digitsF (ncol l 43 6) : Nat), .int .u8 (num 10 0 (dcol l 50 1) : Nat)]) ∧ Below w.heap.size w w' := by
  unfold readOk at hk
  simp only [Bool.and_eq_true, decide_eq_true_eq] at hk
  obtain ⟨⟨⟨⟨⟨h16a, h16b⟩, h10a⟩, h10b⟩, hca⟩, hcb⟩ := hk
  have hs : (bst l).size = 52 := by rw [bst_size, hl]
  have x1 : (bst l).extract 10 17 = bst (col l 10 7) := bst_col l 10 17
  have x2 : (bst l).extract 18 21 = bst (col l 18 3) := bst_col l 18 21
  have x3 : (bst l).extract 22 27 = bst (col l 22 5) := bst_col l 22 27
  have x4 : (bst l).extract 28 31 = bst (col l 28 3) := bst_col l 28 31
  have x5 : (bst l).extract 32 42 = bst (col l 32 10) := bst_col l 32 42
  have x6 : (bst l).extract 43 49 = bst (col l 43 6) := bst_col l 43 49
  have x7 : (bst l).extract 50 51 = bst (col l 50 1) := bst_col l 50 51
  have c1 := col_len l 10 7 (by omega)
  have c2 := col_len l 18 3 (by omega)
  have c3 := col_len l 22 5 (by omega)
  have c4 := col_len l 28 3 (by omega)
  have c5 := col_len l 32 10 (by omega)
  have c6 := col_len l 43 6 (by omega)
  have c7 := col_len l 50 1 (by omega)
  have k4 : Lib.trimLeftB (col l 28 3) 32 = dcol l 28 3 := rfl
  have k7 : Lib.trimLeftB (col l 50 1) 32 = dcol l 50 1 := rfl
  have N4 := fun W => number10 (col l 28 3) W c4 h10a
  have N7 := fun W => number10 (col l 50 1) W c7 h10b
  rw [k4] at N4
  rw [k7] at N7
  have HN4 := Lib.hid N4
  have HN7 := Lib.hid N7
  have w4 : IntKind.u8.wrap ((num 10 0 (dcol l 28 3) : Nat) : Int) = (num 10 0 (dcol l 28 3) : Nat) := by simp [IntKind.wrap, IntKind.bits, IntKind.signed]; omega
  have w7 : IntKind.u8.wrap ((num 10 0 (dcol l 50 1) : Nat) : Int) = (num 10 0 (dcol l 50 1) : Nat) := by simp [IntKind.wrap, IntKind.bits, IntKind.signed]; omega
  obtain ⟨t, ht⟩ : ∃ t, bst l = t := ⟨_, rfl⟩
  rw [ht] at hs x1 x2 x3 x4 x5 x6 x7 ⊢
  clear ht N4 N7 k4 k7 h16a h16b h10a h10b hl
  go_enter Tryd.func34, Tryd.ntmps34
  go_wp2_with fail
  go_region_held3 (fun _ => True) (trivial) (first
    | (go_at_call 46; refine (name_any _ _ ‹_›).mono ?_; rintro e w' ⟨rfl, rfl⟩)
    | (go_at_call 45; refine (category_any _ _).mono ?_; rintro e w' ⟨rfl, rfl⟩)
    | (go_at_call 47; refine (bidi_any _ _).mono ?_; rintro e w' ⟨rfl, rfl⟩)
    | (go_at_call 48; refine (join_any _ _).mono ?_; rintro e w' ⟨rfl, rfl⟩)
    | (go_at_call 49; refine (script_any _ _).mono ?_; rintro e w' ⟨rfl, rfl⟩)
    | (go_at_call 50; refine (digits_any _ _).mono ?_; rintro e w' ⟨rfl, rfl⟩)
    | (go_at_call_of 44 (col l 28 3); refine ((Hid.out HN4) _).mono ?_; rintro e w1 ⟨rfl, hb⟩; have hP1 : PS w w1 := PS.go (PS.start w) hb; clear hb)
    | (go_at_call_of 44 (col l 50 1); refine ((Hid.out HN7) _).mono ?_; rintro e w2 ⟨rfl, hb⟩; have hP2 : PS w w2 := PS.go hP1 hb; clear hb hP1; have p0 := hP2.cell 0 (by omega); have p1 := hP2.cell 1 (by omega); have p2 := hP2.cell 2 (by omega); have p3 := hP2.cell 3 (by omega); have p4 := hP2.cell 4 (by omega); have p5 := hP2.cell 5 (by omega); have p6 := hP2.cell 6 (by omega); have f0 := hP2.frozen 0; have f1 := hP2.frozen 1; have f2 := hP2.frozen 2; have f3 := hP2.frozen 3; have f4 := hP2.frozen 4; have f5 := hP2.frozen 5; have f6 := hP2.frozen 6))
  go_wp2
  refine bodyPost_ret (v := .agg #[.int .u8 (categoryF (ncol l 10 7) : Nat), .int .u8 (bidiF (ncol l 18 3) : Nat), .int .u8 (joinF (ncol l 22 5) : Nat), .int .u8 (num 10 0 (dcol l 28 3) : Nat), .int .u8 (scriptF (ncol l 32 10) : Nat), .int .u8 (digitsF (ncol l 43 6) : Nat), .int .u8 (num 10 0 (dcol l 50 1) : Nat)]) ?_ rfl ⟨rfl, ?_⟩
  · simp [results, Tryd.results34, go_sem, p0, p1, p2, p3, p4, p5, p6, ncol]
  · exact (((((((PS.set hP2 _ _).set _ _).set _ _).set _ _).set _ _).set _ _).set _ _).1

theorem first_at (i : Nat) (w : World) (hi : i < 166) :
    Calls Tryd.prog 32 #[.string (bst (rowL i))] w fun e w' => e = .returned (.int .i32 (fr i)) ∧ Below w.heap.size w w' := by
  have h := (read_at hi).2
  have hk := (read_at hi).1
  unfold readOk at hk
  simp only [Bool.and_eq_true, decide_eq_true_eq] at hk
  have := first_gen (rowL i) w (rowL_len i hi) hk.1.1.1.1.1
  rw [show ((num 16 0 (dcol (rowL i) 0 4) : Nat) : Int) = fr i from congrArg Prod.fst h] at this
  exact this
theorem last_at (i : Nat) (w : World) (hi : i < 166) :
    Calls Tryd.prog 33 #[.string (bst (rowL i))] w fun e w' => e = .returned (.int .i32 (to i)) ∧ Below w.heap.size w w' := by
  have h := (read_at hi).2
  have hk := (read_at hi).1
  unfold readOk at hk
  simp only [Bool.and_eq_true, decide_eq_true_eq] at hk
  have := last_gen (rowL i) w (rowL_len i hi) hk.1.1.1.1.2
  rw [show ((num 16 0 (dcol (rowL i) 5 4) : Nat) : Int) = to i from congrArg (fun x => x.2.1) h] at this
  exact this

/-- seven properties as a value -/
abbrev pv (p : List Int) : Value := .agg #[.int .u8 (g p 0), .int .u8 (g p 1), .int .u8 (g p 2), .int .u8 (g p 3), .int .u8 (g p 4), .int .u8 (g p 5), .int .u8 (g p 6)]

theorem prop_at (i : Nat) (w : World) (hi : i < 166) :
    Calls Tryd.prog 34 #[.string (bst (rowL i))] w fun e w' => e = .returned (pv (pr i)) ∧ Below w.heap.size w w' := by
  have h := congrArg (fun x => x.2.2) (read_at hi).2
  have := prop_gen (rowL i) w (rowL_len i hi) (read_at hi).1
  have e : pr i = [((categoryF (ncol (rowL i) 10 7) : Nat) : Int), ((bidiF (ncol (rowL i) 18 3) : Nat) : Int), ((joinF (ncol (rowL i) 22 5) : Nat) : Int), ((num 10 0 (dcol (rowL i) 28 3) : Nat) : Int), ((scriptF (ncol (rowL i) 32 10) : Nat) : Int), ((digitsF (ncol (rowL i) 43 6) : Nat) : Int), ((num 10 0 (dcol (rowL i) 50 1) : Nat) : Int)] := h.symm
  rw [e]
  exact this

end Go.Proofs.YtjpmecdjlodaoaaDoor
