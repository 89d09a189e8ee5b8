/-
  context: what a code point asks for, as mathematics; the tests beside a place.
-/
import Derived.Test.YtmeihnhghdmjiaaGreatDoorUcdOf2
import Derived.Test.YtmeihnhghdmjiaaGreatDoorWords
import Derived.Lib.Hide
import Derived.IntWalk
namespace Go.Proofs.YtmeihnhghdmjiaaGreatDoor.Ctx
open Go.RowKit Ucd

def Tells (v : Value) (w : World) (e : Ending) (w' : World) : Prop := e = .returned v ∧ Below w.heap.size w w'
def IsB (b : Bool) (w : World) (e : Ending) (w' : World) : Prop := e = .returned (.bool b) ∧ Below w.heap.size w w'
theorem upB {w w1 w2 : World} (h : Below w.heap.size w w1) (k : Below w1.heap.size w1 w2) : Below w.heap.size w w2 := h.trans (k.mono h.size)
theorem upA (w : World) (o : Obj) : Below w.heap.size w (w.alloc o) := (Below.refl _ w).alloc (Nat.le_refl _) o
theorem upR {w w' : World} {A : Option Addr} {xs : List Value} (h : Row w w.heap.size A xs) (hb : Below w.heap.size w w') : Row w' w'.heap.size A xs := (h.below hb).mono hb.size
theorem gets {l : List Int} {i : Nat} (h : i < l.length) : l[i]? = some l[i]! := by rw [List.getElem?_eq_getElem h, getElem!_pos l i h]
theorem mems {l : List Int} {i : Nat} (h : i < l.length) : l[i]! ∈ l := by rw [getElem!_pos l i h]; exact List.getElem_mem h
theorem row_cell {w : World} {b o : Nat} {l : List Int} (hc : ∀ k, k < (cl .i32 l).length → w.cell? ⟨b, o + k, none⟩ = (cl .i32 l)[k]?) (k : Nat) (hk : k < l.length) : w.cell? ⟨b, o + k, none⟩ = some (.int .i32 l[k]!) := by
  rw [hc k (by simpa using hk), List.getElem?_map, gets hk]
  rfl
def C32 (l : List Int) : Prop := ∀ x ∈ l, -2147483648 ≤ x ∧ x ≤ 2147483647

def jt (r : Int) : Int := g (of r) 2
def cc (r : Int) : Int := g (of r) 3
def sc (r : Int) : Int := g (of r) 4
/-- the joining type of the first that is not clear -/
def nxt : List Int → Int
  | [] => 0
  | r :: t => if jt r = 2 then nxt t else jt r
theorem nxt_drop {l : List Int} {k : Nat} (h : k < l.length) : nxt (l.drop k) = if jt l[k]! = 2 then nxt (l.drop (k + 1)) else jt l[k]! := by
  rw [List.drop_eq_getElem_cons h, nxt, getElem!_pos l k h]
theorem nxt_end {l : List Int} {k : Nat} (h : l.length ≤ k) : nxt (l.drop k) = 0 := by rw [List.drop_eq_nil_of_le h]; rfl
theorem nxt_take {l : List Int} {k : Nat} (h : k < l.length) : nxt (l.take (k + 1)).reverse = if jt l[k]! = 2 then nxt (l.take k).reverse else jt l[k]! := by
  rw [List.take_succ_eq_append_getElem h, List.reverse_append, List.reverse_singleton, List.singleton_append, nxt, getElem!_pos l k h]
theorem nxt_ne : ∀ l : List Int, nxt l ≠ 2
  | [] => by decide
  | r :: t => by
    unfold nxt
    split
    · exact nxt_ne t
    · assumption

def on (j : Int) : Bool := decide (j = 3) || decide (j = 4)
def back (j : Int) : Bool := decide (j = 3) || decide (j = 5)
def vir (l : List Int) (i : Nat) : Bool := decide (0 < i) && decide (cc l[i - 1]! = 9)
def jnd (l : List Int) (i : Nat) : Bool := vir l i || (on (nxt (l.take i).reverse) && back (nxt (l.drop (i + 1))))
def jap (r : Int) : Bool := decide (sc r = 8) || (decide (sc r = 9) || decide (sc r = 10))
def ara (r : Int) : Bool := decide (1632 ≤ r) && decide (r < 1642)
def eas (r : Int) : Bool := decide (1776 ≤ r) && decide (r < 1786)
/-- the conditions -/
def ok (l : List Int) (i : Nat) : Nat → Bool
  | 0 => decide (0 < i) && (decide (l[i - 1]! = 108) && (decide (i + 1 < l.length) && decide (l[i + 1]! = 108)))
  | 1 => decide (i + 1 < l.length) && decide (sc l[i + 1]! = 3)
  | 2 => decide (0 < i) && decide (sc l[i - 1]! = 5)
  | 3 => jnd l i
  | 4 => vir l i
  | 5 => l.any jap
  | 6 => !(l.any eas)
  | _ => !(l.any ara)
def kyv (r : Int) : Int := if ara r = true then 1632 else if eas r = true then 1776 else r
def kdK (q : Int) : Nat := if q = 183 then 0 else if q = 885 then 1 else if q = 1523 then 2 else if q = 1524 then 2 else if q = 8204 then 3 else if q = 8205 then 4 else if q = 12539 then 5 else if q = 1632 then 6 else if q = 1776 then 7 else 8
def kd (r : Int) : Nat := kdK (kyv r)
def cls (k : Nat) : Int := if k = 3 then 7 else if k = 4 then 7 else 8
/-- which clause the code point at i violates -/
def atC (l : List Int) (i : Nat) : Int := if kd l[i]! < 8 ∧ ok l i (kd l[i]!) = false then cls (kd l[i]!) else 0

set_option maxRecDepth 100000 in
set_option maxHeartbeats 1000000 in
theorem between_any (l : List Int) (i : Nat) (A : Option Addr) (n c : Nat) (w : World) (hn : l.length = n) (hi : i < n) (hn1 : n ≤ 1000000) (hr : Row w w.heap.size A (cl .i32 l)) : Calls Tryz.prog 17 #[.slice A n c, .int .i64 (i : Int)] w (IsB (ok l i 0) w) := by
  have e : ok l i 0 = (decide (0 < i) && (decide (l[i - 1]! = 108) && (decide (i + 1 < l.length) && decide (l[i + 1]! = 108)))) := rfl
  rw [e]
  obtain ⟨b, o, rfl, hb, hcc⟩ := hr.at_ (by simp; omega)
  by_cases h0 : 0 < i
  · have c0 := row_cell hcc (i - 1) (by omega)
    obtain ⟨p, hp⟩ : ∃ p, i - 1 = p := ⟨_, rfl⟩
    have hsub : (i : Int) - 1 = (p : Int) := by omega
    have hwp : IntKind.i64.wrap (p : Int) = (p : Int) := IntWalk.i64_in _ (by omega)
    have b1 : (p : Int) < (n : Int) := by omega
    have b2 : (0 : Int) ≤ (p : Int) := by omega
    have b3 : (0 : Int) < (i : Int) := by omega
    rw [hp] at c0 ⊢
    obtain ⟨x, hx⟩ : ∃ x, l[p]! = x := ⟨_, rfl⟩
    rw [hx] at c0 ⊢
    obtain ⟨q, hq⟩ : ∃ q, i + 1 = q := ⟨_, rfl⟩
    have hadd : (i : Int) + 1 = (q : Int) := by omega
    have hwq : IntKind.i64.wrap (q : Int) = (q : Int) := IntWalk.i64_in _ (by omega)
    by_cases h1 : x = 108
    · by_cases h2 : i + 1 < n
      · have c1 := row_cell hcc (i + 1) (by omega)
        rw [hq] at c1 ⊢
        have b4 : (q : Int) < (n : Int) := by omega
        have b5 : (0 : Int) ≤ (q : Int) := by omega
        have e2 : decide (q < l.length) = true := decide_eq_true (by omega)
        rw [e2]
        obtain ⟨y, hy⟩ : ∃ y, l[q]! = y := ⟨_, rfl⟩
        rw [hy] at c1 ⊢
        clear hcc hx hy e hn hr hp hq h2 e2 hi
        by_cases h3 : y = 108
        · go_enter Tryz.func17, Tryz.ntmps17
          go_wp2
          go_ret
          exact ⟨by simp [h0, h1, h3], Below.refl _ _⟩
        · go_enter Tryz.func17, Tryz.ntmps17
          go_wp2
          go_ret
          exact ⟨by simp [h0, h1, h3], Below.refl _ _⟩
      · have b4 : ¬ (q : Int) < (n : Int) := by omega
        have e2 : decide (i + 1 < l.length) = false := decide_eq_false (by omega)
        rw [e2]
        clear hcc hx e hn hr hp hq h2 e2 hi
        go_enter Tryz.func17, Tryz.ntmps17
        go_wp2
        go_ret
        exact ⟨by simp, Below.refl _ _⟩
    · clear hcc hx e hn hr hp hq hi
      go_enter Tryz.func17, Tryz.ntmps17
      go_wp2
      go_ret
      exact ⟨by simp [h1], Below.refl _ _⟩
  · have b3 : ¬ (0 : Int) < (i : Int) := by omega
    clear hcc e hn hr hi
    go_enter Tryz.func17, Tryz.ntmps17
    go_wp2
    go_ret
    exact ⟨by simp, Below.refl _ _⟩

theorem fld (p : List Int) (w : World) :
    (Instr.field 35 (pv p) 2).run Tryz.prog w = .ok (.int .u8 (g p 2)) w ∧ (Instr.field 35 (pv p) 3).run Tryz.prog w = .ok (.int .u8 (g p 3)) w ∧ (Instr.field 35 (pv p) 4).run Tryz.prog w = .ok (.int .u8 (g p 4)) w := ⟨by kernel_rfl, by kernel_rfl, by kernel_rfl⟩

set_option maxRecDepth 100000 in
set_option maxHeartbeats 1000000 in
theorem before_any (l : List Int) (i : Nat) (A : Option Addr) (n c : Nat) (w : World) (hn : l.length = n) (hi : i < n) (hn1 : n ≤ 1000000) (hr : Row w w.heap.size A (cl .i32 l)) : Calls Tryz.prog 18 #[.slice A n c, .int .i64 (i : Int)] w (IsB (ok l i 1) w) := by
  have e : ok l i 1 = (decide (i + 1 < l.length) && decide (sc l[i + 1]! = 3)) := rfl
  rw [e]
  obtain ⟨b, o, rfl, hb, hcc⟩ := hr.at_ (by simp; omega)
  obtain ⟨q, hq⟩ : ∃ q, i + 1 = q := ⟨_, rfl⟩
  have hadd : (i : Int) + 1 = (q : Int) := by omega
  have hwq : IntKind.i64.wrap (q : Int) = (q : Int) := IntWalk.i64_in _ (by omega)
  rw [hq]
  by_cases h2 : q < n
  · have c1 := row_cell hcc q (by omega)
    have b4 : (q : Int) < (n : Int) := by omega
    have b5 : (0 : Int) ≤ (q : Int) := by omega
    have e2 : decide (q < l.length) = true := decide_eq_true (by omega)
    rw [e2]
    obtain ⟨x, hx⟩ : ∃ x, l[q]! = x := ⟨_, rfl⟩
    rw [hx] at c1 ⊢
    have HO := Lib.hid (fun w => Of_any x w)
    have HR := fun w => (fld (of x) w).2.2
    unfold sc
    generalize of x = p at HO HR ⊢
    obtain ⟨y, hy⟩ : ∃ y, g p 4 = y := ⟨_, rfl⟩
    rw [hy] at HR ⊢
    clear hcc hx e hn hr hq h2 e2 hi hy
    by_cases h : y = 3
    · go_enter Tryz.func18, Tryz.ntmps18
      go_wp2_with (first | (go_at_call 29; refine (HO.out _).mono ?_; rintro e w1 ⟨rfl, hB1⟩) | fail)
      go_ret
      exact ⟨by simp [h], hB1⟩
    · go_enter Tryz.func18, Tryz.ntmps18
      go_wp2_with (first | (go_at_call 29; refine (HO.out _).mono ?_; rintro e w1 ⟨rfl, hB1⟩) | fail)
      go_ret
      exact ⟨by simp [h], hB1⟩
  · have b4 : ¬ (q : Int) < (n : Int) := by omega
    have e2 : decide (q < l.length) = false := decide_eq_false (by omega)
    rw [e2]
    clear hcc e hn hr hq h2 e2 hi
    go_enter Tryz.func18, Tryz.ntmps18
    go_wp2
    go_ret
    exact ⟨by simp, Below.refl _ _⟩

set_option maxRecDepth 100000 in
set_option maxHeartbeats 1000000 in
theorem hebrew_any (l : List Int) (i : Nat) (A : Option Addr) (n c : Nat) (w : World) (hn : l.length = n) (hi : i < n) (hn1 : n ≤ 1000000) (hr : Row w w.heap.size A (cl .i32 l)) : Calls Tryz.prog 19 #[.slice A n c, .int .i64 (i : Int)] w (IsB (ok l i 2) w) := by
  have e : ok l i 2 = (decide (0 < i) && decide (sc l[i - 1]! = 5)) := rfl
  rw [e]
  obtain ⟨b, o, rfl, hb, hcc⟩ := hr.at_ (by simp; omega)
  by_cases h0 : 0 < i
  · have c0 := row_cell hcc (i - 1) (by omega)
    obtain ⟨p, hp⟩ : ∃ p, i - 1 = p := ⟨_, rfl⟩
    have hsub : (i : Int) - 1 = (p : Int) := by omega
    have hwp : IntKind.i64.wrap (p : Int) = (p : Int) := IntWalk.i64_in _ (by omega)
    have b1 : (p : Int) < (n : Int) := by omega
    have b2 : (0 : Int) ≤ (p : Int) := by omega
    have b3 : (0 : Int) < (i : Int) := by omega
    rw [hp] at c0 ⊢
    obtain ⟨x, hx⟩ : ∃ x, l[p]! = x := ⟨_, rfl⟩
    rw [hx] at c0 ⊢
    have HO := Lib.hid (fun w => Of_any x w)
    have HR := fun w => (fld (of x) w).2.2
    unfold sc
    generalize of x = p at HO HR ⊢
    obtain ⟨y, hy⟩ : ∃ y, g p 4 = y := ⟨_, rfl⟩
    rw [hy] at HR ⊢
    clear hcc hx e hn hr hp hi hy
    by_cases h : y = 5
    · go_enter Tryz.func19, Tryz.ntmps19
      go_wp2_with (first | (go_at_call 29; refine (HO.out _).mono ?_; rintro e w1 ⟨rfl, hB1⟩) | fail)
      go_ret
      exact ⟨by simp [h, h0], hB1⟩
    · go_enter Tryz.func19, Tryz.ntmps19
      go_wp2_with (first | (go_at_call 29; refine (HO.out _).mono ?_; rintro e w1 ⟨rfl, hB1⟩) | fail)
      go_ret
      exact ⟨by simp [h], hB1⟩
  · have b3 : ¬ (0 : Int) < (i : Int) := by omega
    clear hcc e hn hr hi
    go_enter Tryz.func19, Tryz.ntmps19
    go_wp2
    go_ret
    exact ⟨by simp, Below.refl _ _⟩

set_option maxRecDepth 100000 in
set_option maxHeartbeats 1000000 in
theorem virama_any (l : List Int) (i : Nat) (A : Option Addr) (n c : Nat) (w : World) (hn : l.length = n) (hi : i < n) (hn1 : n ≤ 1000000) (hr : Row w w.heap.size A (cl .i32 l)) : Calls Tryz.prog 21 #[.slice A n c, .int .i64 (i : Int)] w (IsB (vir l i) w) := by
  unfold vir
  obtain ⟨b, o, rfl, hb, hcc⟩ := hr.at_ (by simp; omega)
  by_cases h0 : 0 < i
  · have c0 := row_cell hcc (i - 1) (by omega)
    obtain ⟨p, hp⟩ : ∃ p, i - 1 = p := ⟨_, rfl⟩
    have hsub : (i : Int) - 1 = (p : Int) := by omega
    have hwp : IntKind.i64.wrap (p : Int) = (p : Int) := IntWalk.i64_in _ (by omega)
    have b1 : (p : Int) < (n : Int) := by omega
    have b2 : (0 : Int) ≤ (p : Int) := by omega
    have b3 : (0 : Int) < (i : Int) := by omega
    rw [hp] at c0 ⊢
    obtain ⟨x, hx⟩ : ∃ x, l[p]! = x := ⟨_, rfl⟩
    rw [hx] at c0 ⊢
    have HO := Lib.hid (fun w => Of_any x w)
    have HR := fun w => (fld (of x) w).2.1
    unfold cc
    generalize of x = p at HO HR ⊢
    obtain ⟨y, hy⟩ : ∃ y, g p 3 = y := ⟨_, rfl⟩
    rw [hy] at HR ⊢
    clear hcc hx hn hr hp hi hy
    by_cases h : y = 9
    · go_enter Tryz.func21, Tryz.ntmps21
      go_wp2_with (first | (go_at_call 29; refine (HO.out _).mono ?_; rintro e w1 ⟨rfl, hB1⟩) | fail)
      go_ret
      exact ⟨by simp [h, h0], hB1⟩
    · go_enter Tryz.func21, Tryz.ntmps21
      go_wp2_with (first | (go_at_call 29; refine (HO.out _).mono ?_; rintro e w1 ⟨rfl, hB1⟩) | fail)
      go_ret
      exact ⟨by simp [h], hB1⟩
  · have b3 : ¬ (0 : Int) < (i : Int) := by omega
    clear hcc hn hr hi
    go_enter Tryz.func21, Tryz.ntmps21
    go_wp2
    go_ret
    exact ⟨by simp, Below.refl _ _⟩
end Go.Proofs.YtmeihnhghdmjiaaGreatDoor.Ctx
