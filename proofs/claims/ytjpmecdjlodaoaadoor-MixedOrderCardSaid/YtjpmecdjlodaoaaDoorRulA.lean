/-
  rule: the classes of a label, and what it fails, as mathematics. No program here but the table.
-/
import Derived.Test.YtjpmecdjlodaoaaDoorUcdOf2
import Derived.Test.YtjpmecdjlodaoaaDoorWords
import Derived.Lib.Hide
import Derived.IntWalk
namespace Go.Proofs.YtjpmecdjlodaoaaDoor.Rul
open Go.RowKit Ucd

def Tells (v : Value) (w : World) (e : Ending) (w' : World) : Prop := e = .returned v ∧ Below w.heap.size w w'
def IsB (b : Bool) (w : World) (e : Ending) (w' : World) : Prop := e = .returned (.bool b) ∧ Below w.heap.size w w'
theorem upB {w w1 w2 : World} (h : Below w.heap.size w w1) (k : Below w1.heap.size w1 w2) : Below w.heap.size w w2 := h.trans (k.mono h.size)
theorem upA (w : World) (o : Obj) : Below w.heap.size w (w.alloc o) := (Below.refl _ w).alloc (Nat.le_refl _) o
theorem upR {w w' : World} {A : Option Addr} {xs : List Value} (h : Row w w.heap.size A xs) (hb : Below w.heap.size w w') : Row w' w'.heap.size A xs := (h.below hb).mono hb.size
theorem gets {l : List Int} {i : Nat} (h : i < l.length) : l[i]? = some l[i]! := by rw [List.getElem?_eq_getElem h, getElem!_pos l i h]
theorem mems {l : List Int} {i : Nat} (h : i < l.length) : l[i]! ∈ l := by rw [getElem!_pos l i h]; exact List.getElem_mem h
theorem row_cell {w : World} {b o : Nat} {l : List Int} (hc : ∀ k, k < (cl .i32 l).length → w.cell? ⟨b, o + k, none⟩ = (cl .i32 l)[k]?) (k : Nat) (hk : k < l.length) : w.cell? ⟨b, o + k, none⟩ = some (.int .i32 l[k]!) := by
  rw [hc k (by simpa using hk), List.getElem?_map, gets hk]
  rfl
def C32 (l : List Int) : Prop := ∀ x ∈ l, -2147483648 ≤ x ∧ x ≤ 2147483647

/-- the class of a code point -/
def bc (r : Int) : Int := g (of r) 1
theorem bc_tab : (List.range 166).all (fun i => decide (0 ≤ g (pr i) 1) && decide (g (pr i) 1 ≤ 22)) = true := by decide +kernel
theorem bc_bd (r : Int) : 0 ≤ bc r ∧ bc r ≤ 22 := by
  unfold bc
  rcases of_cases r with ⟨i, hi, h1, h2, e⟩ | ⟨h, e⟩
  · rw [e]
    have := List.all_eq_true.1 bc_tab i (List.mem_range.2 hi)
    simp only [Bool.and_eq_true, decide_eq_true_eq] at this
    exact this
  · rw [e]; decide

/-- is a class in a set? -/
def hs (s c : Int) : Bool := decide (s / 2 ^ c.toNat % 2 ≠ 0)
def hb (s r : Int) : Bool := hs s (bc r)
/-- the last class that is no 8; 8 if there is none -/
def lastC (cs : List Int) : Int := cs.foldl (fun a c => if c = 8 then a else c) 8
theorem lastC_snoc (cs : List Int) (c : Int) : lastC (cs ++ [c]) = if c = 8 then lastC cs else c := by simp [lastC, List.foldl_append]
theorem fold_marks (m : Nat) (a : Int) : (List.replicate m (8 : Int)).foldl (fun a c => if c = 8 then a else c) a = a := by
  induction m with
  | zero => rfl
  | succ m ih => rw [List.replicate_succ, List.foldl_cons, if_pos rfl, ih]
theorem lastC_marks (cs ds : List Int) (m : Nat) : lastC (cs ++ List.replicate m 8 ++ ds) = lastC (cs ++ ds) := by
  unfold lastC
  rw [List.foldl_append, List.foldl_append, fold_marks, List.foldl_append]
/-- what a direction's conditions say -/
def vio (ins lst : Int) (cs : List Int) : Int :=
  if (cs.all (hs ins)) = false then 10 else if hs lst (lastC cs) = false then 11 else if (cs.any (hs 8) && cs.any (hs 64)) = true then 12 else 0
/-- which clause is failed -/
def chkC : List Int → Int
  | [] => 9
  | c :: cs => if hs 6 c = true then vio 9214 78 (c :: cs) else if hs 1 c = true then vio 9145 9 (c :: cs) else 9
def bidC (cs : List Int) : Bool := cs.any (hs 70)
def chk (l : List Int) : Int := chkC (l.map bc)
def bid (l : List Int) : Bool := bidC (l.map bc)
theorem any_hb (s : Int) (l : List Int) : l.any (hb s) = (l.map bc).any (hs s) := by rw [List.any_map]; rfl
theorem all_hb (s : Int) (l : List Int) : l.all (hb s) = (l.map bc).all (hs s) := by rw [List.all_map]; rfl
theorem any_not (p : Int → Bool) (l : List Int) : l.any (fun r => !p r) = !(l.all p) := by
  induction l with
  | nil => rfl
  | cons a t ih => rw [List.any_cons, List.all_cons, ih, Bool.not_and]

def S (l : List Int) (c : Int) : Bool := l.contains c
theorem hs_all {c : Int} (h : 0 ≤ c ∧ c ≤ 22) : (hs 6 c = S [1, 2] c) ∧ (hs 1 c = S [0] c) ∧ (hs 70 c = S [1, 2, 6] c) ∧ (hs 8 c = S [3] c) ∧ (hs 64 c = S [6] c) ∧ (hs 256 c = S [8] c) ∧ (hs 9214 c = S [1, 2, 6, 3, 4, 7, 5, 13, 9, 8] c) ∧ (hs 78 c = S [1, 2, 3, 6] c) ∧ (hs 9145 c = S [0, 3, 4, 7, 5, 13, 9, 8] c) ∧ (hs 9 c = S [0, 3] c) := by
  obtain ⟨k, rfl⟩ : ∃ k : Nat, c = (k : Int) := ⟨c.toNat, by omega⟩
  have hk : k < 23 := by omega
  have : ∀ k : Nat, k < 23 → (hs 6 (k : Int) = S [1, 2] k) ∧ (hs 1 (k : Int) = S [0] k) ∧ (hs 70 (k : Int) = S [1, 2, 6] k) ∧ (hs 8 (k : Int) = S [3] k) ∧ (hs 64 (k : Int) = S [6] k) ∧ (hs 256 (k : Int) = S [8] k) ∧ (hs 9214 (k : Int) = S [1, 2, 6, 3, 4, 7, 5, 13, 9, 8] k) ∧ (hs 78 (k : Int) = S [1, 2, 3, 6] k) ∧ (hs 9145 (k : Int) = S [0, 3, 4, 7, 5, 13, 9, 8] k) ∧ (hs 9 (k : Int) = S [0, 3] k) := by decide +kernel
  exact this k hk
theorem lastC_bd (cs : List Int) (h : ∀ c ∈ cs, 0 ≤ c ∧ c ≤ 22) : 0 ≤ lastC cs ∧ lastC cs ≤ 22 := by
  have : ∀ (cs : List Int) (a : Int), (0 ≤ a ∧ a ≤ 22) → (∀ c ∈ cs, 0 ≤ c ∧ c ≤ 22) → 0 ≤ cs.foldl (fun a c => if c = 8 then a else c) a ∧ cs.foldl (fun a c => if c = 8 then a else c) a ≤ 22 := by
    intro cs
    induction cs with
    | nil => intro a h _; exact h
    | cons c t ih =>
      intro a ha hc
      rw [List.foldl_cons]
      apply ih
      · split
        · exact ha
        · exact hc c (List.mem_cons_self ..)
      · exact fun x hx => hc x (List.mem_cons_of_mem _ hx)
  exact this cs 8 (by omega) h
theorem map_bd (l : List Int) : ∀ c ∈ l.map bc, 0 ≤ c ∧ c ≤ 22 := fun c h => by
  obtain ⟨r, _, e⟩ := List.mem_map.1 h
  rw [← e]
  exact bc_bd r
end Go.Proofs.YtjpmecdjlodaoaaDoor.Rul
