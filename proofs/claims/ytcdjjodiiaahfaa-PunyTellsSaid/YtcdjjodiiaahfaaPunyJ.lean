/-
  The contract of puny.Encode.
-/
import Derived.Test.YtcdjjodiiaahfaaPunyI
import Derived.Lib.Strings
namespace Go.Proofs.Ytcdjjodiiaahfaa
open Go.RowKit Go.Shelf Puny

attribute [local go_sem] Oper.semAt_some

/-- the text so far, as numbers -/
def head (l : List Nat) : List Nat := Puny.basics l ++ (if Puny.basics l = [] then [] else [45])
def txt (l pre : List Nat) : List Nat := head l ++ (encD pre (Puny.basics l).length 72 700).map fun d => (sign d).toNat
theorem txt_nil (l : List Nat) : txt l [] = head l := by simp [txt, encD]
theorem txt_snoc (l pre : List Nat) (d : Nat) : txt l (pre ++ [d]) = txt l pre ++ (digs (bias pre (Puny.basics l).length 72 700).1 1 d).map fun d => (sign d).toNat := by
  unfold txt; rw [encD_snoc, List.map_append, List.append_assoc]
theorem cb_sgn (L : List Nat) : cl .u8 (L.map sgn) = cb (L.map fun d => (sign d).toNat) := by simp [cl, cb, sgn]
/-- the text of a row -/
def encT (l : List Nat) : List UInt8 := (Puny.basics l).map UInt8.ofNat ++ (if Puny.basics l = [] then [] else [45]) ++ (encD (deltas l) (Puny.basics l).length 72 700).map sign

def isScaN (l : List Nat) : Bool := l.all sca

/-- what the loop keeps -/
def EncI (l : List Nat) (w : World) (n1 B4 B5 B6 H : Nat) (pre : List Nat) (W : World) : Prop :=
  ∃ v, W.heap[B4]? = some (.cells #[v] 34 (0, 0)) ∧ W.heap[B5]? = some (.cells #[.int .i64 (((Puny.basics l).length + pre.length : Nat) : Int)] 2 (0, 0)) ∧
    W.heap[B6]? = some (.cells #[.int .i64 ((bias pre (Puny.basics l).length 72 700).1 : Int), .int .i64 ((bias pre (Puny.basics l).length 72 700).2 : Int)] 44 (0, 0)) ∧
    W.ownsRow w.heap.size 5 1 v (txt l pre).length (cb (txt l pre)) ∧ (∀ j, v.ownBlock = some j → (j < n1 ∧ j ≠ B4 ∧ j ≠ B5 ∧ j ≠ B6) ∨ H ≤ j) ∧ Below w.heap.size w W ∧
    (txt l pre).length ≤ (head l).length + 11 * pre.length ∧ (bias pre (Puny.basics l).length 72 700).1 ≤ 7000000000 ∧ 0 < (bias pre (Puny.basics l).length 72 700).2

def Encoded (l : List Nat) (w : World) (e : Ending) (w' : World) : Prop :=
  ∃ s : ByteArray, e = .returned (.tuple #[.string s, .int .i64 0]) ∧ s.data.toList = encT l ∧ Below w.heap.size w w'

theorem all_isSca {l : List Nat} (h : ∀ x ∈ l, sca x = true) : (l.map fun n : Nat => (n : Int)).all isSca = true := by
  rw [List.all_map, List.all_eq_true]
  intro x hx
  have := h x hx
  simp [sca] at this
  simp [isSca]; omega

theorem firstBias_agg (w : World) : Calls Try.prog 21 #[] w fun e w' => e = .returned (.agg #[.int .i64 72, .int .i64 700]) ∧ Below w.heap.size w w' := firstBias_any w
theorem far_store {w2 w3 : World} {B B4 : Nat} {v : Value} {o : Obj} (h : w2.heap[B]? = some o) (hne : B ≠ B4) (hB3 : Below (w2.setCell ⟨B4, 0, none⟩ v).heap.size (w2.setCell ⟨B4, 0, none⟩ v) w3) : w3.heap[B]? = some o := by
  have hlt := (Array.getElem?_eq_some_iff.1 h).1
  have hg := grownBy_setCell' w2 B4 v
  exact (hB3.block B (Nat.lt_of_lt_of_le hlt hg.size)).trans ((hg.block B hlt (fun e => hne (by cases e; rfl))).trans h)
theorem at_store {w2 w3 : World} {B4 : Nat} {v u : Value} {t : TypeId} (h : w2.heap[B4]? = some (.cells #[u] t (0, 0))) (hB3 : Below (w2.setCell ⟨B4, 0, none⟩ v).heap.size (w2.setCell ⟨B4, 0, none⟩ v) w3) : w3.heap[B4]? = some (.cells #[v] t (0, 0)) := by
  have hlt := (Array.getElem?_eq_some_iff.1 h).1
  have hg := grownBy_setCell' w2 B4 v
  refine (hB3.block B4 (Nat.lt_of_lt_of_le hlt hg.size)).trans ?_
  simp [World.setCell, Array.getElem?_modify, h]
theorem alloc2_0 (w : World) (a b : Obj) : ((w.alloc a).alloc b).heap[w.heap.size]? = some a := (Below.heap_alloc _ _ _ (by simp)).trans (World.alloc_heap_new w _)
theorem alloc2_1 (w : World) (a b : Obj) : ((w.alloc a).alloc b).heap[w.heap.size + 1]? = some b := by have := World.alloc_heap_new (w.alloc a) b; rwa [World.size_alloc] at this
theorem alloc3_2 (w : World) (a b c : Obj) : (((w.alloc a).alloc b).alloc c).heap[w.heap.size + 1 + 1]? = some c := by have := World.alloc_heap_new ((w.alloc a).alloc b) c; rwa [World.size_alloc, World.size_alloc] at this
theorem own_ne {w : World} {base : Nat} {e : TypeId} {size n : Nat} {v : Value} {xs : List Value} (h : w.ownsRow base e size v n xs) {B : Nat} {cs : Array Value} {t : TypeId} {fr : Nat × Nat} (hb : w.heap[B]? = some (.cells cs t fr)) (hne : t ≠ e) : ∀ j, v.ownBlock = some j → j ≠ B := by
  intro j hj
  rcases h.2 with ⟨hv, _⟩ | ⟨g, cap, cur, hv, _, hg, _⟩
  · rw [hv] at hj; cases hj
  · rw [hv] at hj
    cases hj
    rintro rfl
    rw [hb] at hg
    injection hg with hg
    injection hg with _ h2 _
    exact hne h2
theorem head_len (l : List Nat) : (head l).length ≤ l.length + 1 := by
  unfold head
  have : (Puny.basics l).length ≤ l.length := List.length_filter_le _ _
  rw [List.length_append]
  split <;> simp <;> omega
theorem enc_start {l : List Nat} {w W : World} {B4 B5 B6 : Nat} {v : Value} (h4 : W.heap[B4]? = some (.cells #[v] 34 (0, 0))) (h5 : W.heap[B5]? = some (.cells #[.int .i64 ((Puny.basics l).length : Int)] 2 (0, 0)))
    (h6 : W.heap[B6]? = some (.cells #[.int .i64 72, .int .i64 700] 44 (0, 0))) (hown : W.ownsRow w.heap.size 5 1 v (txt l []).length (cb (txt l []))) (hlt : ∀ j, v.ownBlock = some j → j < B6) (hne4 : ∀ j, v.ownBlock = some j → j ≠ B4) (hne5 : ∀ j, v.ownBlock = some j → j ≠ B5)
    (hB : Below w.heap.size w W) : ∀ H, EncI l w (B6 + 1) B4 B5 B6 H [] W := fun H =>
  ⟨v, h4, by simpa using h5, by simpa [bias] using h6, hown, fun j hj => .inl ⟨by have := hlt j hj; omega, hne4 j hj, hne5 j hj, by have := hlt j hj; omega⟩, hB, by rw [txt_nil]; simp, by simp [bias], by simp [bias]⟩
theorem encI_ab {l : List Nat} {w : World} {n1 B4 B5 B6 H : Nat} (h4 : B4 < n1) (h5 : B5 < n1) (h6 : B6 < n1) (hw : w.heap.size ≤ n1) : AbAll n1 H (fun pre W => EncI l w n1 B4 B5 B6 H pre W) := by
  rintro pre W W' row ⟨v, b4, b5, b6, hown, hob, hB, hl, hlead, hpart⟩ hg hr
  have far : ∀ j, j < W.heap.size → (j < n1 ∨ H ≤ j) → W'.heap[j]? = W.heap[j]? := fun j hj hj2 => hg.block j hj (fun e => by have := hr j e.symm; omega)
  refine ⟨v, (far B4 (Array.getElem?_eq_some_iff.1 b4).1 (.inl h4)).trans b4, (far B5 (Array.getElem?_eq_some_iff.1 b5).1 (.inl h5)).trans b5, (far B6 (Array.getElem?_eq_some_iff.1 b6).1 (.inl h6)).trans b6,
    own_of_heap hown (fun j hj => far j (hown.lt j hj).2 (by have := hob j hj; omega)), hob, hB.grown hg hB.size (fun j e => by have := hr j e; omega), hl, hlead, hpart⟩
theorem alloc3_0 (w : World) (a b c : Obj) : (((w.alloc a).alloc b).alloc c).heap[w.heap.size]? = some a :=
  (Below.heap_alloc _ _ _ (by simp; omega)).trans ((Below.heap_alloc _ _ _ (by simp)).trans (World.alloc_heap_new w _))
theorem alloc3_1 (w : World) (a b c : Obj) : (((w.alloc a).alloc b).alloc c).heap[w.heap.size + 1]? = some b :=
  (Below.heap_alloc _ _ _ (by simp)).trans (by have := World.alloc_heap_new (w.alloc a) b; rwa [World.size_alloc] at this)
theorem box_cell {w : World} {B : Nat} {a : Value} {t : TypeId} (h : w.heap[B]? = some (.cells #[a] t (0, 0))) : w.cell? ⟨B, 0, none⟩ = some a ∧ w.frozen? ⟨B, 0, none⟩ = false := by
  simp [World.cell?, World.frozen?, h]

theorem heap_set_ne {W : World} {B B' o : Nat} {v : Value} (h : B ≠ B') : (W.setCell ⟨B', o, none⟩ v).heap[B]? = W.heap[B]? := by
  simp [World.setCell, Array.getElem?_modify]
  intro e; exact absurd e.symm h
theorem cell_set_ne {W : World} {B B' o o' : Nat} {v : Value} (h : B ≠ B') : (W.setCell ⟨B', o', none⟩ v).cell? ⟨B, o, none⟩ = W.cell? ⟨B, o, none⟩ := World.cell?_of_block (a := ⟨B, o, none⟩) (heap_set_ne h)
theorem frozen_set_ne {W : World} {B B' o o' : Nat} {v : Value} (h : B ≠ B') : (W.setCell ⟨B', o', none⟩ v).frozen? ⟨B, o, none⟩ = W.frozen? ⟨B, o, none⟩ := by
  simp only [World.frozen?, heap_set_ne h]
theorem heap_set1 {W : World} {B : Nat} {u v : Value} {t : TypeId} (h : W.heap[B]? = some (.cells #[u] t (0, 0))) : (W.setCell ⟨B, 0, none⟩ v).heap[B]? = some (.cells #[v] t (0, 0)) := by
  simp [World.setCell, Array.getElem?_modify, h]
theorem heap_set20 {W : World} {B : Nat} {a b v : Value} {t : TypeId} (h : W.heap[B]? = some (.cells #[a, b] t (0, 0))) : (W.setCell ⟨B, 0, none⟩ v).heap[B]? = some (.cells #[v, b] t (0, 0)) := by
  simp [World.setCell, Array.getElem?_modify, h]
theorem heap_set21 {W : World} {B : Nat} {a b v : Value} {t : TypeId} (h : W.heap[B]? = some (.cells #[a, b] t (0, 0))) : (W.setCell ⟨B, 1, none⟩ v).heap[B]? = some (.cells #[a, v] t (0, 0)) := by
  simp [World.setCell, Array.getElem?_modify, h]
theorem own_slice {w : World} {base : Nat} {e : TypeId} {size n : Nat} {v : Value} {xs : List Value} (h : w.ownsRow base e size v n xs) : ∃ A c, v = .slice A n c := by
  rcases h.2 with ⟨hv, h0⟩ | ⟨g, c, cur, hv, _⟩
  · exact ⟨none, 0, by rw [hv, h0]⟩
  · exact ⟨_, _, hv⟩

theorem strOf_txt (L : List Nat) : (strOfNums (L.map fun n : Nat => (n : Int))).data.toList = L.map UInt8.ofNat := by
  rw [strOfNums_data, List.map_map]
  refine List.map_congr_left fun x _ => ?_
  simp
theorem conv_own {w : World} {base : Nat} {v : Value} {n : Nat} {L : List Nat} (h : w.ownsRow base 5 1 v n (cb L)) :
    (convert 34 9 v).run Try.prog w = .ok (.string (strOfNums (L.map fun n : Nat => (n : Int)))) w := by
  obtain ⟨A, c, rfl⟩ := own_slice h
  have hn : n = L.length := by have := h.1; simpa using this.symm
  subst hn
  have hr := Row.of_own h
  cases L with
  | nil =>
    cases A with
    | none => exact run_convert_bytes_nil w 34 5 Try.underlying34 Try.underlying5 0 c 9 Try.underlying9
    | some a =>
      rw [run_convert_bytes_string w 34 9 5 _ _ c Try.underlying34 Try.underlying5 Try.underlying9]
      exact run_bytesToString w a 0 c [] (by simp [loadCells, loadCellsFrom])
  | cons x t =>
    obtain ⟨b, o, rfl, _, hc⟩ := hr.at_ (by simp)
    refine run_convert_bytes_arg w 34 5 Try.underlying34 Try.underlying5 b o _ c ((x :: t).map fun n : Nat => (n : Int)) (by simp) (fun i hi => ?_) 9 Try.underlying9
    rw [hc i (by simpa using hi)]
    generalize x :: t = L at hi ⊢
    have hiL : i < L.length := by simpa using hi
    have e1 : (cb L)[i]? = some (.int .u8 (L[i] : Int)) := by simp [hiL]
    have e2 : (L.map fun n : Nat => (n : Int)).getD i 0 = (L[i] : Int) := by simp [List.getD, hiL]
    rw [e1, e2]
theorem txt_enc (l : List Nat) : (txt l (deltas l)).map UInt8.ofNat = encT l := by
  unfold txt head encT
  rw [List.map_append, List.map_append, List.map_map]
  congr 1
  · congr 1
    split <;> rfl
  · refine List.map_congr_left fun x _ => ?_
    simp
/-- a round of the loop -/
theorem enc_round {l pre : List Nat} {w X X2 : World} {n1 B4 B5 B6 D H x : Nat} {v v2 : Value} {lead part k : Nat} (h4 : B4 < n1) (h5 : B5 < n1) (h6 : B6 < n1) (g4 : w.heap.size ≤ B4) (g5 : w.heap.size ≤ B5) (g6 : w.heap.size ≤ B6) (d45 : B5 ≠ B4) (d46 : B6 ≠ B4) (d56 : B6 ≠ B5)
    (hn1 : n1 ≤ D) (hD : D + 2 ≤ H) (hHX : H ≤ X.heap.size) (hl : bias pre (Puny.basics l).length 72 700 = (lead, part)) (hk : (Puny.basics l).length + pre.length = k)
    (b4 : X.heap[B4]? = some (.cells #[v] 34 (0, 0))) (b5 : X.heap[B5]? = some (.cells #[.int .i64 (k : Int)] 2 (0, 0))) (b6 : X.heap[B6]? = some (.cells #[.int .i64 (lead : Int), .int .i64 (part : Int)] 44 (0, 0)))
    (hown : X.ownsRow w.heap.size 5 1 v (txt l pre).length (cb (txt l pre))) (hob : ∀ j, v.ownBlock = some j → (j < n1 ∧ j ≠ B4 ∧ j ≠ B5 ∧ j ≠ B6) ∨ H ≤ j) (hB : Below w.heap.size w X) (hlen : (txt l pre).length ≤ (head l).length + 11 * pre.length)
    (hx : x ≤ 3000000000) (hown2 : X2.ownsRow w.heap.size 5 1 v2 ((txt l pre).length + ((digs lead 1 x).map sgn).length) (cb (txt l pre) ++ cl .u8 ((digs lead 1 x).map sgn))) (hgr : Grew X v X2 v2) :
    SameBooks D X ((((X2.setCell ⟨B4, 0, none⟩ v2).setCell ⟨B5, 0, none⟩ (.int .i64 ((k : Int) + 1))).setCell ⟨B6, 0, none⟩ (.int .i64 (next x part (k + 1) : Nat))).setCell ⟨B6, 1, none⟩ (.int .i64 2)) ∧
    Kept w.heap.size n1 D H X ((((X2.setCell ⟨B4, 0, none⟩ v2).setCell ⟨B5, 0, none⟩ (.int .i64 ((k : Int) + 1))).setCell ⟨B6, 0, none⟩ (.int .i64 (next x part (k + 1) : Nat))).setCell ⟨B6, 1, none⟩ (.int .i64 2)) ∧
    EncI l w n1 B4 B5 B6 H (pre ++ [x]) ((((X2.setCell ⟨B4, 0, none⟩ v2).setCell ⟨B5, 0, none⟩ (.int .i64 ((k : Int) + 1))).setCell ⟨B6, 0, none⟩ (.int .i64 (next x part (k + 1) : Nat))).setCell ⟨B6, 1, none⟩ (.int .i64 2)) := by
  have far : ∀ {j : Nat}, j < X.heap.size → v.ownBlock ≠ some j → X2.heap[j]? = X.heap[j]? := fun hj hn => hgr.1.block _ hj (fun e => hn e.symm)
  have n4 := own_ne hown b4 (by decide)
  have n5 := own_ne hown b5 (by decide)
  have n6 := own_ne hown b6 (by decide)
  have b42 := (far (Array.getElem?_eq_some_iff.1 b4).1 (fun e => n4 _ e rfl)).trans b4
  have b52 := (far (Array.getElem?_eq_some_iff.1 b5).1 (fun e => n5 _ e rfl)).trans b5
  have b62 := (far (Array.getElem?_eq_some_iff.1 b6).1 (fun e => n6 _ e rfl)).trans b6
  have free : Free (fun j => v.ownBlock = some j ∨ j = B4 ∨ j = B5 ∨ j = B6) X ((((X2.setCell ⟨B4, 0, none⟩ v2).setCell ⟨B5, 0, none⟩ (.int .i64 ((k : Int) + 1))).setCell ⟨B6, 0, none⟩ (.int .i64 (next x part (k + 1) : Nat))).setCell ⟨B6, 1, none⟩ (.int .i64 2)) := by
    have f1 : Free (fun j => v.ownBlock = some j ∨ j = B4 ∨ j = B5 ∨ j = B6) X X2 := (Free.refl _ X).trans (Free.of_grown hgr.1) (fun j _ e => .inl e)
    exact ((((f1.trans (Free.store _ _ _) (fun j _ e => .inr (.inl e))).trans (Free.store _ _ _) (fun j _ e => .inr (.inr (.inl e)))).trans (Free.store _ _ _) (fun j _ e => .inr (.inr (.inr e)))).trans (Free.store1 _ _ _) (fun j _ e => .inr (.inr (.inr e))))
  have m4 := own_ne hown2 b42 (by decide)
  have m5 := own_ne hown2 b52 (by decide)
  have m6 := own_ne hown2 b62 (by decide)
  generalize hX' : ((((X2.setCell ⟨B4, 0, none⟩ v2).setCell ⟨B5, 0, none⟩ (.int .i64 ((k : Int) + 1))).setCell ⟨B6, 0, none⟩ (.int .i64 (next x part (k + 1) : Nat))).setCell ⟨B6, 1, none⟩ (.int .i64 2)) = X' at free ⊢
  have notS : ∀ j, n1 ≤ j → j < H → ¬ (v.ownBlock = some j ∨ j = B4 ∨ j = B5 ∨ j = B6) := fun j hj hj2 h => by
    rcases h with h | h | h | h
    · have := hob j h; omega
    · omega
    · omega
    · omega
  have notL : ∀ j, j < w.heap.size → ¬ (v.ownBlock = some j ∨ j = B4 ∨ j = B5 ∨ j = B6) := fun j hj h => by
    rcases h with h | h | h | h
    · have := (hown.lt j h).1; omega
    · omega
    · omega
    · omega
  refine ⟨⟨free.2.2.2.2 D (by omega) (notS D hn1 (by omega)), free.2.2.2.2 (D + 1) (by omega) (notS (D + 1) (by omega) (by omega))⟩, ⟨free.2.2.2.1, fun j hj => ?_⟩, v2, ?_, ?_, ?_, ?_, ?_, ?_, ?_, ?_, ?_⟩
  · rcases hj with hj | ⟨hj1, hj2, _, _⟩
    · exact free.2.2.2.2 j (by have := hB.size; omega) (notL j hj)
    · exact free.2.2.2.2 j (by omega) (notS j hj1 hj2)
  · rw [← hX', heap_set_ne (Ne.symm d46), heap_set_ne (Ne.symm d46), heap_set_ne (Ne.symm d45)]; exact heap_set1 b42
  · rw [← hX', heap_set_ne (Ne.symm d56), heap_set_ne (Ne.symm d56), List.length_append, List.length_singleton, show (Puny.basics l).length + (pre.length + 1) = k + 1 by omega]
    have := heap_set1 (v := .int .i64 ((k : Int) + 1)) ((heap_set_ne (W := X2) (o := 0) (v := v2) d45).trans b52)
    rw [this]; simp
  · rw [← hX', bias_snoc, hl, hk]
    have h1 := (heap_set_ne (W := (X2.setCell ⟨B4, 0, none⟩ v2)) (o := 0) (v := .int .i64 ((k : Int) + 1)) d56).trans ((heap_set_ne (W := X2) (o := 0) (v := v2) d46).trans b62)
    rw [heap_set21 (heap_set20 h1)]
    rfl
  · rw [txt_snoc, hl]
    have h2 : X'.ownsRow w.heap.size 5 1 v2 ((txt l pre).length + ((digs lead 1 x).map sgn).length) (cb (txt l pre) ++ cl .u8 ((digs lead 1 x).map sgn)) := own_of_heap hown2 (fun j hj => by
      rw [← hX', heap_set_ne (m6 j hj), heap_set_ne (m6 j hj), heap_set_ne (m5 j hj), heap_set_ne (m4 j hj)])
    rw [cb_sgn, ← List.map_append] at h2
    simpa using h2
  · intro j hj
    rcases hgr.2 with e | ⟨i, e, hi⟩
    · rw [e] at hj; exact hob j hj
    · rw [e] at hj; injection hj with hj; subst hj; exact .inr (by omega)
  · exact hB.trans (free.below hB.size notL)
  · have := digs_len10 lead 1 x hx
    rw [txt_snoc, hl]
    simp only [List.length_append, List.length_map, List.length_singleton]
    omega
  · rw [bias_snoc]
    have := next_le x (bias pre (Puny.basics l).length 72 700).2 ((Puny.basics l).length + pre.length + 1)
    show next _ _ _ ≤ _
    omega
  · rw [bias_snoc]; show 0 < 2; omega

set_option maxRecDepth 100000 in
set_option maxHeartbeats 2000000 in
theorem Encode_in (N : Nat) (hS : SortOk N) (hN : N ≤ 100000) (n : Nat) (hn : 3 ≤ n) (l : List Nat) (A : Option Addr) (len cap : Nat) (w : World) (hlen : l.length = len) (ho : (oth l len).length ≤ N) (hm : len ≤ 2000) (hsc : ∀ x ∈ l, sca x = true) (hr : Row w w.heap.size A (cn l)) :
    CallsIn Fence.wide n Try.prog 9 #[.slice A len cap] w (Encoded l w) := by
  have h1 : 1 ≤ n := by omega
  obtain ⟨i0, hi, hz0, hz1, hz2⟩ := info_parts info_u8
  have hall := allScalars_any (l.map fun n : Nat => (n : Int)) A len cap w (by simpa using hlen) (by omega) (by rw [show cl .i32 (l.map fun n : Nat => (n : Int)) = cn l by simp [cl, cn]]; exact hr) (fun x hx => by
    obtain ⟨y, hy, rfl⟩ := List.mem_map.1 hx
    have := hsc y hy
    simp [sca] at this; omega)
  rw [all_isSca hsc] at hall
  have hbas := basics_any l A len cap w hlen (by omega) hr
  have HALL := Lib.hid hall
  have HBAS := Lib.hid hbas
  have HLEN := Lib.hid hlen
  have HSC := Lib.hid hsc
  have HR := Lib.hid hr
  have HS := Lib.hid hS
  clear hall hbas hlen hsc hr hS
  refine callsIn_of_wp_marks Try.func9 rfl trivial ?_ rfl
  simp only [Try.ntmps9, List.size_toArray, List.length_cons, List.length_nil, Nat.reduceAdd, Nat.reduceSub, Array.replicate_succ, Array.replicate_zero, List.push_toArray, List.append_toArray, List.nil_append, List.cons_append]
  gi_wp2_with fail
  refine ⟨trivial, (callsIn_wide.2 HALL.out).mono ?_⟩
  rintro e w' ⟨rfl, rfl⟩
  gi_wp2_with fail
  refine ⟨trivial, (callsIn_wide.2 HBAS.out).mono ?_⟩
  rintro e w1 ⟨v, rfl, hown, hB⟩
  obtain ⟨g, mc, rfl⟩ : ∃ g mc, v = .slice g (Puny.basics l).length mc := by
    rcases hown.2 with ⟨hv, h0⟩ | ⟨g, c, cur, hv, _⟩
    · exact ⟨none, 0, by rw [hv, h0]⟩
    · exact ⟨_, _, hv⟩
  have hbl : (Puny.basics l).length ≤ len := by rw [← HLEN.out]; exact List.length_filter_le _ _
  have hsz := hB.size
  have hl4 : w1.heap.size < w1.heap.size + 1 := by omega
  by_cases hb0 : (Puny.basics l).length = 0
  · have HB0 := Lib.hid hb0
    have hbd : decide ((0 : Int) < ((Puny.basics l).length : Int)) = false := decide_eq_false (by omega)
    have hbe : decide (0 < (Puny.basics l).length) = false := decide_eq_false (by omega)
    clear hb0
    gi_wp2_with (first
      | (refine ⟨trivial, ?_⟩; gi_at_call 21; refine (callsIn_wide.2 (firstBias_agg _)).mono ?_; rintro e w3 ⟨rfl, hB3⟩; have hb43 := (hB3.block w1.heap.size (by simp; omega)).trans (alloc2_0 w1 _ _); have hb53 := (hB3.block (w1.heap.size + 1) (by simp)).trans (alloc2_1 w1 _ _); obtain ⟨c53, _⟩ := box_cell hb53; have hl53 := (Array.getElem?_eq_some_iff.1 hb53).1)
      | (refine ⟨trivial, ?_⟩; gi_at_call 22; refine (deltas_any _ _ _ _ _ _).mono ?_; rintro e w' ⟨rfl, rfl⟩)
      | fail)
    have hl43 : w1.heap.size < w3.heap.size := by omega
    have hbn : Puny.basics l = [] := List.eq_nil_of_length_eq_zero HB0.out
    have hBa : Below w1.heap.size w1 ((w1.alloc (.cells #[.slice g (Puny.basics l).length mc] 34)).alloc (.cells #[.int .i64 ((Puny.basics l).length : Int)] 2)) := ((Below.refl _ w1).alloc (Nat.le_refl _) _).alloc (by simp) _
    have hBw3 : Below w.heap.size w w3 := (hB.trans (hBa.mono hsz)).trans (hB3.mono (by simp; omega))
    have hown3 : w3.ownsRow w.heap.size 5 1 (.slice g (Puny.basics l).length mc) (txt l []).length (cb (txt l [])) := by
      have h2 : w3.ownsRow w.heap.size 5 1 (.slice g (Puny.basics l).length mc) (Puny.basics l).length (cb (Puny.basics l)) := own_below (own_below hown hBa) hB3
      rw [txt_nil]; simpa [head, hbn] using h2
    -- THE LOOP
    obtain ⟨W, hW⟩ : ∃ W, ((w3.alloc (.cells #[.int .i64 72, .int .i64 700] 44)).alloc (.cells #[.slice A len cap] 22)).alloc (.cells #[.int .i64 ((Puny.basics l).length : Int)] 2) = W := ⟨_, rfl⟩
    have hWs : W.heap.size = w3.heap.size + 3 := by rw [← hW]; simp
    have hBW : Below w3.heap.size w3 W := by rw [← hW]; exact (((Below.refl _ w3).alloc (Nat.le_refl _) _).alloc (by simp) _).alloc (by simp; omega) _
    have hb6 : W.heap[w3.heap.size]? = some (.cells #[.int .i64 72, .int .i64 700] 44 (0, 0)) := by rw [← hW]; exact alloc3_0 _ _ _ _
    have hbl : W.heap[w3.heap.size + 1]? = some (.cells #[.slice A len cap] 22 (0, 0)) := by rw [← hW]; exact alloc3_1 _ _ _ _
    have hbh : W.heap[w3.heap.size + 1 + 1]? = some (.cells #[.int .i64 ((Puny.basics l).length : Int)] 2 (0, 0)) := by rw [← hW]; exact alloc3_2 _ _ _ _
    have hst := enc_start (B4 := w1.heap.size) (B5 := w1.heap.size + 1) (hBW.block _ hl43 |>.trans hb43) (hBW.block _ hl53 |>.trans hb53) hb6 (own_of_heap hown3 (fun j hj => hBW.block j (hown3.lt j hj).2)) (fun j hj => (hown3.lt j hj).2) (fun j hj => own_ne hown3 hb43 (by decide) j hj) (fun j hj => own_ne hown3 hb53 (by decide) j hj) (hBw3.trans (hBW.mono (by have := hBw3.size; omega)))
    have hrW : Row W w.heap.size A (cn l) := (HR.out.below hBw3).below (hBW.mono (by have := hBw3.size; omega))
    have hwW : w.heap.size ≤ w3.heap.size := hBw3.size
    have HST := Lib.hid hst
    have HRW := Lib.hid hrW
    have HBL := Lib.hid hbl
    have HBH := Lib.hid hbh
    have HBW3 := Lib.hid hBw3
    generalize hgW : ((w3.alloc (.cells #[.int .i64 72, .int .i64 700] 44)).alloc (.cells #[.slice A len cap] 22)).alloc (.cells #[.int .i64 ((Puny.basics l).length : Int)] 2) = W' at hW ⊢
    subst hW
    clear hgW hst hrW hbl hbh hb6 hBw3 hown3
    refine wpIn_iter (F := Fence.wide) rfl h1 (gf := 43) (lb := #[.pointer (some ⟨w3.heap.size + 1, 0, none⟩), .pointer (some ⟨w3.heap.size + 1 + 1, 0, none⟩)]) rfl trivial (enters_of Try.func43 (by kernel_rfl) rfl)
      (encs := encs) (G := fun _ d => d ≤ 3000000000) (S := fun xs => xs = deltas l) (Sp := fun _ => True) (N := len) (n0 := w.heap.size) (n1 := w3.heap.size + 1) (by omega) (by omega) (fun _ => rfl)
      (fun W0 hB0 hs0 => deltas1_in N HS.out hN (n - 1) (by omega) w.heap.size (w3.heap.size + 1) W'.heap.size (w3.heap.size + 1) A len cap l HLEN.out ho hm (fun x hx => by have := HSC.out x hx; simp [sca] at this; omega) (by omega) (Nat.le_refl _) (by omega) W0 hs0
        (HRW.out.below (hB0.mono (by omega))) ((hB0.block _ (by omega)).trans HBL.out) ((hB0.block _ (by omega)).trans HBH.out))
      (fun H pre X => EncI l w (w3.heap.size + 1) w1.heap.size (w1.heap.size + 1) w3.heap.size H pre X) (fun _ _ => False)
      (fun H => encI_ab (by omega) (by omega) (by omega) (by omega)) (fun _ _ _ _ h _ _ => h.elim) (fun H hH => HST.out H)
      (fun x a' => ∃ u0 u1 u2 u3 u8 u9 u10 u11 u12 u13 u14 u15 u16 u17 u18 u19 u20 u21 u22 u23 u24 u25 u26 u27 u28 u29 u30 u31 u32 u33 u34 u35 u36 u37 u38 : Value, a' = { tmps := #[u0, u1, u2, u3, .pointer (some ⟨w1.heap.size, 0, none⟩), .pointer (some ⟨w1.heap.size + 1, 0, none⟩), .pointer (some ⟨w3.heap.size, 0, none⟩), .int .i64 (x : Int), u8, u9, u10, u11, u12, u13, u14, u15, u16, u17, u18, u19, u20, u21, u22, u23, u24, u25, u26, u27, u28, u29, u30, u31, u32, u33, u34, u35, u36, u37, u38], defers := [] })
      ?assign0 ?body0 ?done0 ?stop0
    case assign0 =>
      intro lp x X K hK
      simp only [encs]
      gi_wp2
      all_goals exact hK _ ⟨_, _, _, _, _, _, _, _, _, _, _, _, _, _, _, _, _, _, _, _, _, _, _, _, _, _, _, _, _, _, _, _, _, _, _, rfl⟩
    case body0 =>
      rintro H lp pre x a' X hH hHX hI ⟨u0,u1,u2,u3,u8,u9,u10,u11,u12,u13,u14,u15,u16,u17,u18,u19,u20,u21,u22,u23,u24,u25,u26,u27,u28,u29,u30,u31,u32,u33,u34,u35,u36,u37,u38, rfl⟩ hlen hgood
      obtain ⟨v, b4, b5, b6, hownX, hobX, hBX, hlX, hleadX, hpartX⟩ := hI
      have hn11 : 1 ≤ n - 1 - 1 := by omega
      have hhl : (head l).length ≤ 2001 := by have := head_len l; rw [HLEN.out] at this; omega
      obtain ⟨lead, part, hlp⟩ : ∃ lead part, bias pre (Puny.basics l).length 72 700 = (lead, part) := ⟨_, _, rfl⟩
      rw [hlp] at b6 hleadX hpartX
      obtain ⟨k, hk⟩ : ∃ k, (Puny.basics l).length + pre.length = k := ⟨_, rfl⟩
      rw [hk] at b5
      dsimp only at b6 hleadX hpartX
      have hadd := addDigits_any w.heap.size v _ _ x lead part X hownX (by omega) hBX.size (by omega) (by omega)
      have e4 : w1.heap.size < X.heap.size := (Array.getElem?_eq_some_iff.1 b4).1
      have e6 : w3.heap.size < X.heap.size := (Array.getElem?_eq_some_iff.1 b6).1
      have n4 := own_ne hownX b4 (by decide)
      have n5 := own_ne hownX b5 (by decide)
      have n6 := own_ne hownX b6 (by decide)
      have hround := fun (X2 : World) (v2 : Value) h1 h2 => enc_round (X2 := X2) (v2 := v2) (n1 := w3.heap.size + 1) (B4 := w1.heap.size) (B5 := w1.heap.size + 1) (B6 := w3.heap.size) (D := W'.heap.size) (H := H) (by omega) (by omega) (by omega) (by omega) (by omega) (by omega) (by omega) (by omega) (by omega) (by omega) hH hHX hlp hk b4 b5 b6 hownX hobX hBX hlX hgood h1 h2
      obtain ⟨c4, f4⟩ := box_cell b4
      obtain ⟨c60, c61, f60, f61⟩ := blk2 b6
      have ek : ((k + 1 : Nat) : Int) = (k : Int) + 1 := by omega
      have hfol := fun (u : World) a1 a2 a3 a4 => follow_any w3.heap.size x part (k + 1) (lead : Int) u (by omega) hpartX (by omega) (by omega) a1 a2 a3 a4
      simp only [ek] at hfol
      have hkk : k ≤ 4000 := by omega
      have HADD := Lib.hid hadd
      have HROUND := Lib.hid hround
      have HFOL := Lib.hid hfol
      have HB5 := Lib.hid b5
      have HB6 := Lib.hid b6
      have HB4 := Lib.hid b4
      have HN4 := Lib.hid n4
      have HN5 := Lib.hid n5
      have HN6 := Lib.hid n6
      have q1 : w3.heap.size ≠ w1.heap.size := by omega
      have q2 : w3.heap.size ≠ w1.heap.size + 1 := by omega
      clear hadd hround hfol hobX hlX ek hlp hk b4 b5 b6 hownX n4 n5 n6 hBX
      gi_wp2_with (first
        | (refine ⟨trivial, ?_⟩; gi_at_call 23; refine (CallsIn.inRound lp (callsIn_wide.2 HADD.out)).mono ?_; rintro e X2 ⟨v2, rfl, hown2, hgr2⟩; have HR2 := Lib.hid (HROUND.out X2 _ hown2 hgr2); have b42 := (hgr2.1.block _ e4 (fun e => HN4.out _ e.symm rfl)).trans HB4.out; have b52 := (hgr2.1.block _ (Array.getElem?_eq_some_iff.1 HB5.out).1 (fun e => HN5.out _ e.symm rfl)).trans HB5.out; have b62 := (hgr2.1.block _ e6 (fun e => HN6.out _ e.symm rfl)).trans HB6.out; obtain ⟨A2, m2, rfl⟩ := own_slice hown2; obtain ⟨c42, f42⟩ := box_cell b42; obtain ⟨c52, f52⟩ := box_cell b52; obtain ⟨c620, c621, f620, f621⟩ := blk2 b62; clear hown2 hgr2 b42 b52 b62 c4 f4 c60 c61 f60 f61)
        | (refine ⟨trivial, ?_⟩; gi_at_call 24; refine (CallsIn.inRound lp (callsIn_wide.2 (HFOL.out _ (by rw [cell_set_ne q2, cell_set_ne q1]; exact c620) (by rw [cell_set_ne q2, cell_set_ne q1]; exact c621) (by rw [frozen_set_ne q2, frozen_set_ne q1]; exact f620) (by rw [frozen_set_ne q2, frozen_set_ne q1]; exact f621)))).mono ?_; rintro e X3 ⟨rfl, rfl⟩)
        | fail)
      have h9 := HR2.out
      simp only [List.length_map] at h9
      exact h9
    case done0 =>
      rintro H xs X hH rfl ⟨v, b4, b5, b6, hownX, hobX, hBX, hlX, hleadX, hpartX⟩ hD
      have hconv := conv_own hownX
      obtain ⟨c4, f4⟩ := box_cell b4
      obtain ⟨A2, m2, rfl⟩ := own_slice hownX
      have HENC := Lib.hid (txt_enc l)
      clear b5 b6 hownX hobX hlX hleadX hpartX
      gi_wp2
      refine ⟨by simp, .inl ⟨_, _, rfl, run_takeDeferred hD, ?_⟩⟩
      refine ⟨_, results_tmp2 rfl _ _ _, _, rfl, (strOf_txt _).trans HENC.out, ?_⟩
      exact hBX.trans (belowK_b (w := w) (Nat.le_refl _) X _ _ _ (by omega) hD rfl rfl)
    case stop0 =>
      rintro pre X _ h _
      exact h.elim
  · have hb1 : 0 < (Puny.basics l).length := by omega
    have hnw := news_new ((w1.alloc (.cells #[.slice g (Puny.basics l).length mc] 34)).alloc (.cells #[.int .i64 ((Puny.basics l).length : Int)] 2)) #[.int .u8 45] 5 [.int .u8 45] rfl
    rw [show ((w1.alloc (.cells #[.slice g (Puny.basics l).length mc] 34)).alloc (.cells #[.int .i64 ((Puny.basics l).length : Int)] 2)).heap.size = w1.heap.size + 1 + 1 by simp] at hnw
    have hne4 : some w1.heap.size ≠ (Value.slice g (Puny.basics l).length mc).ownBlock := fun e => by have := (hown.lt _ e.symm).2; omega
    have hne5 : some (w1.heap.size + 1) ≠ (Value.slice g (Puny.basics l).length mc).ownBlock := fun e => by have := (hown.lt _ e.symm).2; omega
    gi_wp2_with (first
      | (gi_at_builtin; refine wpListIn_append_own _ rfl _ _ 34 rfl w.heap.size 5 i0 (.int .u8 0) 1 1 Try.underlying34 hi hz0 hz1 hz2 rfl (by decide) _ _ _ rfl (((hown.alloc _).alloc _).alloc _) ⟨w1.heap.size + 1 + 1, 0, none⟩ 1 1 [.int .u8 45] rfl (by rfl) hnw (by simp [Value.oneCell']) (by unfold maxLen; omega) (by omega) (by simp; omega) ?_; intro v' w2 hown2 hgrow2 _; obtain ⟨g', cap', rfl⟩ := ownsRow_succ hown2; have hb4 := (hgrow2.block w1.heap.size (by simp; omega) hne4).trans (alloc3_0 _ _ _ _); have hb5 := (hgrow2.block (w1.heap.size + 1) (by simp) hne5).trans (alloc3_1 _ _ _ _); obtain ⟨c4, f4⟩ := box_cell hb4)
      | (refine ⟨trivial, ?_⟩; gi_at_call 21; refine (callsIn_wide.2 (firstBias_agg _)).mono ?_; rintro e w3 ⟨rfl, hB3⟩; have hb53 := far_store hb5 (by omega) hB3; have hb43 := at_store hb4 hB3; obtain ⟨c53, _⟩ := box_cell hb53; have hl53 := (Array.getElem?_eq_some_iff.1 hb53).1)
      | (refine ⟨trivial, ?_⟩; gi_at_call 22; refine (deltas_any _ _ _ _ _ _).mono ?_; rintro e w' ⟨rfl, rfl⟩)
      | fail)
    have hl43 : w1.heap.size < w3.heap.size := by omega
    have hbn : Puny.basics l ≠ [] := fun e => hb0 (by rw [e]; rfl)
    have hBa : Below w1.heap.size w1 (((w1.alloc (.cells #[.slice g (Puny.basics l).length mc] 34)).alloc (.cells #[.int .i64 ((Puny.basics l).length : Int)] 2)).alloc (.cells #[.int .u8 45] 5)) := (((Below.refl _ w1).alloc (Nat.le_refl _) _).alloc (by simp) _).alloc (by simp; omega) _
    have hBb : Below w.heap.size w w2 := (hB.trans (hBa.mono hsz)).grown hgrow2 (by simp; omega) (fun j e => (hown.lt j e).1)
    have hBw3 : Below w.heap.size w w3 := (hBb.setCell (p := ⟨w1.heap.size, 0, none⟩) hsz _).trans (hB3.mono (by have := hBb.size; simpa using this))
    have hown3 : w3.ownsRow w.heap.size 5 1 (.slice (some ⟨g', 0, none⟩) ((Puny.basics l).length + 1) cap') (txt l []).length (cb (txt l [])) := by
      have h2 : w3.ownsRow w.heap.size 5 1 (.slice (some ⟨g', 0, none⟩) ((Puny.basics l).length + 1) cap') ((Puny.basics l).length + 1) (cb (Puny.basics l) ++ [.int .u8 45]) :=
        own_of_heap hown2 (fun j hj => by
          have hj2 := (Array.getElem?_eq_some_iff.1 hb4).1
          obtain ⟨o, ho⟩ : ∃ o, w2.heap[j]? = some o := ⟨_, Array.getElem?_eq_getElem (hown2.lt j hj).2⟩
          rw [ho]
          exact far_store ho (own_ne hown2 hb4 (by decide) j hj) hB3)
      rw [txt_nil]; simpa [head, hbn] using h2
    -- THE LOOP
    obtain ⟨W, hW⟩ : ∃ W, ((w3.alloc (.cells #[.int .i64 72, .int .i64 700] 44)).alloc (.cells #[.slice A len cap] 22)).alloc (.cells #[.int .i64 ((Puny.basics l).length : Int)] 2) = W := ⟨_, rfl⟩
    have hWs : W.heap.size = w3.heap.size + 3 := by rw [← hW]; simp
    have hBW : Below w3.heap.size w3 W := by rw [← hW]; exact (((Below.refl _ w3).alloc (Nat.le_refl _) _).alloc (by simp) _).alloc (by simp; omega) _
    have hb6 : W.heap[w3.heap.size]? = some (.cells #[.int .i64 72, .int .i64 700] 44 (0, 0)) := by rw [← hW]; exact alloc3_0 _ _ _ _
    have hbl : W.heap[w3.heap.size + 1]? = some (.cells #[.slice A len cap] 22 (0, 0)) := by rw [← hW]; exact alloc3_1 _ _ _ _
    have hbh : W.heap[w3.heap.size + 1 + 1]? = some (.cells #[.int .i64 ((Puny.basics l).length : Int)] 2 (0, 0)) := by rw [← hW]; exact alloc3_2 _ _ _ _
    have hst := enc_start (B4 := w1.heap.size) (B5 := w1.heap.size + 1) (hBW.block _ hl43 |>.trans hb43) (hBW.block _ hl53 |>.trans hb53) hb6 (own_of_heap hown3 (fun j hj => hBW.block j (hown3.lt j hj).2)) (fun j hj => (hown3.lt j hj).2) (fun j hj => own_ne hown3 hb43 (by decide) j hj) (fun j hj => own_ne hown3 hb53 (by decide) j hj) (hBw3.trans (hBW.mono (by have := hBw3.size; omega)))
    have hrW : Row W w.heap.size A (cn l) := (HR.out.below hBw3).below (hBW.mono (by have := hBw3.size; omega))
    have hwW : w.heap.size ≤ w3.heap.size := hBw3.size
    have HST := Lib.hid hst
    have HRW := Lib.hid hrW
    have HBL := Lib.hid hbl
    have HBH := Lib.hid hbh
    have HBW3 := Lib.hid hBw3
    generalize hgW : ((w3.alloc (.cells #[.int .i64 72, .int .i64 700] 44)).alloc (.cells #[.slice A len cap] 22)).alloc (.cells #[.int .i64 ((Puny.basics l).length : Int)] 2) = W' at hW ⊢
    subst hW
    clear hgW hst hrW hbl hbh hb6 hBw3 hown3
    refine wpIn_iter (F := Fence.wide) rfl h1 (gf := 43) (lb := #[.pointer (some ⟨w3.heap.size + 1, 0, none⟩), .pointer (some ⟨w3.heap.size + 1 + 1, 0, none⟩)]) rfl trivial (enters_of Try.func43 (by kernel_rfl) rfl)
      (encs := encs) (G := fun _ d => d ≤ 3000000000) (S := fun xs => xs = deltas l) (Sp := fun _ => True) (N := len) (n0 := w.heap.size) (n1 := w3.heap.size + 1) (by omega) (by omega) (fun _ => rfl)
      (fun W0 hB0 hs0 => deltas1_in N HS.out hN (n - 1) (by omega) w.heap.size (w3.heap.size + 1) W'.heap.size (w3.heap.size + 1) A len cap l HLEN.out ho hm (fun x hx => by have := HSC.out x hx; simp [sca] at this; omega) (by omega) (Nat.le_refl _) (by omega) W0 hs0
        (HRW.out.below (hB0.mono (by omega))) ((hB0.block _ (by omega)).trans HBL.out) ((hB0.block _ (by omega)).trans HBH.out))
      (fun H pre X => EncI l w (w3.heap.size + 1) w1.heap.size (w1.heap.size + 1) w3.heap.size H pre X) (fun _ _ => False)
      (fun H => encI_ab (by omega) (by omega) (by omega) (by omega)) (fun _ _ _ _ h _ _ => h.elim) (fun H hH => HST.out H)
      (fun x a' => ∃ u0 u1 u2 u3 u8 u9 u10 u11 u12 u13 u14 u15 u16 u17 u18 u19 u20 u21 u22 u23 u24 u25 u26 u27 u28 u29 u30 u31 u32 u33 u34 u35 u36 u37 u38 : Value, a' = { tmps := #[u0, u1, u2, u3, .pointer (some ⟨w1.heap.size, 0, none⟩), .pointer (some ⟨w1.heap.size + 1, 0, none⟩), .pointer (some ⟨w3.heap.size, 0, none⟩), .int .i64 (x : Int), u8, u9, u10, u11, u12, u13, u14, u15, u16, u17, u18, u19, u20, u21, u22, u23, u24, u25, u26, u27, u28, u29, u30, u31, u32, u33, u34, u35, u36, u37, u38], defers := [] })
      ?assign1 ?body1 ?done1 ?stop1
    case assign1 =>
      intro lp x X K hK
      simp only [encs]
      gi_wp2
      all_goals exact hK _ ⟨_, _, _, _, _, _, _, _, _, _, _, _, _, _, _, _, _, _, _, _, _, _, _, _, _, _, _, _, _, _, _, _, _, _, _, rfl⟩
    case body1 =>
      rintro H lp pre x a' X hH hHX hI ⟨u0,u1,u2,u3,u8,u9,u10,u11,u12,u13,u14,u15,u16,u17,u18,u19,u20,u21,u22,u23,u24,u25,u26,u27,u28,u29,u30,u31,u32,u33,u34,u35,u36,u37,u38, rfl⟩ hlen hgood
      obtain ⟨v, b4, b5, b6, hownX, hobX, hBX, hlX, hleadX, hpartX⟩ := hI
      have hn11 : 1 ≤ n - 1 - 1 := by omega
      have hhl : (head l).length ≤ 2001 := by have := head_len l; rw [HLEN.out] at this; omega
      obtain ⟨lead, part, hlp⟩ : ∃ lead part, bias pre (Puny.basics l).length 72 700 = (lead, part) := ⟨_, _, rfl⟩
      rw [hlp] at b6 hleadX hpartX
      obtain ⟨k, hk⟩ : ∃ k, (Puny.basics l).length + pre.length = k := ⟨_, rfl⟩
      rw [hk] at b5
      dsimp only at b6 hleadX hpartX
      have hadd := addDigits_any w.heap.size v _ _ x lead part X hownX (by omega) hBX.size (by omega) (by omega)
      have e4 : w1.heap.size < X.heap.size := (Array.getElem?_eq_some_iff.1 b4).1
      have e6 : w3.heap.size < X.heap.size := (Array.getElem?_eq_some_iff.1 b6).1
      have n4 := own_ne hownX b4 (by decide)
      have n5 := own_ne hownX b5 (by decide)
      have n6 := own_ne hownX b6 (by decide)
      have hround := fun (X2 : World) (v2 : Value) h1 h2 => enc_round (X2 := X2) (v2 := v2) (n1 := w3.heap.size + 1) (B4 := w1.heap.size) (B5 := w1.heap.size + 1) (B6 := w3.heap.size) (D := W'.heap.size) (H := H) (by omega) (by omega) (by omega) (by omega) (by omega) (by omega) (by omega) (by omega) (by omega) (by omega) hH hHX hlp hk b4 b5 b6 hownX hobX hBX hlX hgood h1 h2
      obtain ⟨c4, f4⟩ := box_cell b4
      obtain ⟨c60, c61, f60, f61⟩ := blk2 b6
      have ek : ((k + 1 : Nat) : Int) = (k : Int) + 1 := by omega
      have hfol := fun (u : World) a1 a2 a3 a4 => follow_any w3.heap.size x part (k + 1) (lead : Int) u (by omega) hpartX (by omega) (by omega) a1 a2 a3 a4
      simp only [ek] at hfol
      have hkk : k ≤ 4000 := by omega
      have HADD := Lib.hid hadd
      have HROUND := Lib.hid hround
      have HFOL := Lib.hid hfol
      have HB5 := Lib.hid b5
      have HB6 := Lib.hid b6
      have HB4 := Lib.hid b4
      have HN4 := Lib.hid n4
      have HN5 := Lib.hid n5
      have HN6 := Lib.hid n6
      have q1 : w3.heap.size ≠ w1.heap.size := by omega
      have q2 : w3.heap.size ≠ w1.heap.size + 1 := by omega
      clear hadd hround hfol hobX hlX ek hlp hk b4 b5 b6 hownX n4 n5 n6 hBX
      gi_wp2_with (first
        | (refine ⟨trivial, ?_⟩; gi_at_call 23; refine (CallsIn.inRound lp (callsIn_wide.2 HADD.out)).mono ?_; rintro e X2 ⟨v2, rfl, hown2, hgr2⟩; have HR2 := Lib.hid (HROUND.out X2 _ hown2 hgr2); have b42 := (hgr2.1.block _ e4 (fun e => HN4.out _ e.symm rfl)).trans HB4.out; have b52 := (hgr2.1.block _ (Array.getElem?_eq_some_iff.1 HB5.out).1 (fun e => HN5.out _ e.symm rfl)).trans HB5.out; have b62 := (hgr2.1.block _ e6 (fun e => HN6.out _ e.symm rfl)).trans HB6.out; obtain ⟨A2, m2, rfl⟩ := own_slice hown2; obtain ⟨c42, f42⟩ := box_cell b42; obtain ⟨c52, f52⟩ := box_cell b52; obtain ⟨c620, c621, f620, f621⟩ := blk2 b62; clear hown2 hgr2 b42 b52 b62 c4 f4 c60 c61 f60 f61)
        | (refine ⟨trivial, ?_⟩; gi_at_call 24; refine (CallsIn.inRound lp (callsIn_wide.2 (HFOL.out _ (by rw [cell_set_ne q2, cell_set_ne q1]; exact c620) (by rw [cell_set_ne q2, cell_set_ne q1]; exact c621) (by rw [frozen_set_ne q2, frozen_set_ne q1]; exact f620) (by rw [frozen_set_ne q2, frozen_set_ne q1]; exact f621)))).mono ?_; rintro e X3 ⟨rfl, rfl⟩)
        | fail)
      have h9 := HR2.out
      simp only [List.length_map] at h9
      exact h9
    case done1 =>
      rintro H xs X hH rfl ⟨v, b4, b5, b6, hownX, hobX, hBX, hlX, hleadX, hpartX⟩ hD
      have hconv := conv_own hownX
      obtain ⟨c4, f4⟩ := box_cell b4
      obtain ⟨A2, m2, rfl⟩ := own_slice hownX
      have HENC := Lib.hid (txt_enc l)
      clear b5 b6 hownX hobX hlX hleadX hpartX
      gi_wp2
      refine ⟨by simp, .inl ⟨_, _, rfl, run_takeDeferred hD, ?_⟩⟩
      refine ⟨_, results_tmp2 rfl _ _ _, _, rfl, (strOf_txt _).trans HENC.out, ?_⟩
      exact hBX.trans (belowK_b (w := w) (Nat.le_refl _) X _ _ _ (by omega) hD rfl rfl)
    case stop1 =>
      rintro pre X _ h _
      exact h.elim

theorem Encode_any (N : Nat) (hS : SortOk N) (hN : N ≤ 100000) (l : List Nat) (A : Option Addr) (len cap : Nat) (w : World) (hlen : l.length = len) (ho : (oth l len).length ≤ N) (hm : len ≤ 2000) (hsc : ∀ x ∈ l, sca x = true) (hr : Row w w.heap.size A (cn l)) :
    Calls Try.prog 9 #[.slice A len cap] w (Encoded l w) := callsIn_wide.1 (Encode_in N hS hN 4 (by omega) l A len cap w hlen ho hm hsc hr)

/-- who is too long, or no row of scalars -/
def Refused (k : Int) (w : World) (e : Ending) (w' : World) : Prop := e = .returned (.tuple #[.string .empty, .int .i64 k]) ∧ Below w.heap.size w w'
theorem Encode_great (A : Option Addr) (len cap : Nat) (w : World) (hm : 2000 < len) (hm2 : len ≤ 1000000) : Calls Try.prog 9 #[.slice A len cap] w (Refused 41 w) := by
  refine (callsIn_wide (n := 4)).1 ?_
  refine callsIn_of_wp_marks Try.func9 rfl trivial ?_ rfl
  simp only [Try.ntmps9, List.size_toArray, List.length_cons, List.length_nil, Nat.reduceAdd, Nat.reduceSub, Array.replicate_succ, Array.replicate_zero, List.push_toArray, List.append_toArray, List.nil_append, List.cons_append]
  gi_wp2
  all_goals exact ⟨_, results_tmp2 rfl _ _ _, rfl, Below.refl _ _⟩
theorem Encode_wrong (l : List Int) (A : Option Addr) (len cap : Nat) (w : World) (hlen : l.length = len) (hm : len ≤ 2000) (hr : Row w w.heap.size A (cl .i32 l)) (hw : ∀ x ∈ l, -2147483648 ≤ x ∧ x ≤ 2147483647) (hs : l.all isSca = false) :
    Calls Try.prog 9 #[.slice A len cap] w (Refused 40 w) := by
  have h := allScalars_any l A len cap w hlen (by omega) hr hw
  rw [hs] at h
  have H := Lib.hid h
  clear h hs hw hr
  refine (callsIn_wide (n := 4)).1 ?_
  refine callsIn_of_wp_marks Try.func9 rfl trivial ?_ rfl
  simp only [Try.ntmps9, List.size_toArray, List.length_cons, List.length_nil, Nat.reduceAdd, Nat.reduceSub, Array.replicate_succ, Array.replicate_zero, List.push_toArray, List.append_toArray, List.nil_append, List.cons_append]
  gi_wp2_with fail
  refine ⟨trivial, (callsIn_wide.2 H.out).mono ?_⟩
  rintro e w' ⟨rfl, rfl⟩
  gi_wp2
  all_goals exact ⟨_, results_tmp2 rfl _ _ _, rfl, Below.refl _ _⟩
end Go.Proofs.Ytcdjjodiiaahfaa
