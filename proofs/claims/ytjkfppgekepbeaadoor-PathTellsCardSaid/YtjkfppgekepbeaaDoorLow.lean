/-
  The contracts of what the statements of layer 1 use to compare: fascialow.Runes, fascialow.Same, fascialaw01.same.
-/
import Derived.Test.YtjkfppgekepbeaaDoorUtfF
import Derived.Lib.Strings
namespace Go.Proofs.YtjkfppgekepbeaaDoor.Ut
set_option maxRecDepth 100000
open Go.RowKit Utf

theorem conv_row {w : World} {B : Nat} {A : Option Addr} {xs : List Int} {n c : Nat} (hn : xs.length = n) (hr : Row w B A (cl .u8 xs)) :
    (convert 40 9 (.slice A n c)).run Tryd.prog w = .ok (.string (strOfNums xs)) w := by
  subst hn
  cases xs with
  | nil =>
    cases A with
    | none => exact run_convert_bytes_nil w 40 5 Tryd.underlying40 Tryd.underlying5 0 c 9 Tryd.underlying9
    | some a =>
      rw [run_convert_bytes_string w 40 9 5 _ _ c Tryd.underlying40 Tryd.underlying5 Tryd.underlying9]
      exact run_bytesToString w a 0 c [] (by simp [loadCells, loadCellsFrom])
  | cons x t =>
    obtain ⟨b, o, rfl, _, hc⟩ := hr.at_ (by simp)
    refine run_convert_bytes_arg w 40 5 Tryd.underlying40 Tryd.underlying5 b o _ c (x :: t) rfl (fun i hi => ?_) 9 Tryd.underlying9
    rw [hc i (by simpa using hi), cl_get _ _ _ hi]
    simp [List.getD, List.getElem?_eq_getElem hi]

theorem strOf_inj {a b : List Int} (ha : Byt a) (hb : Byt b) (h : strOfNums a = strOfNums b) : a = b := by
  have h1 : (strOfNums a).data.toList = (strOfNums b).data.toList := by rw [h]
  rw [strOfNums_data, strOfNums_data] at h1
  clear h
  induction a generalizing b with
  | nil => cases b with
    | nil => rfl
    | cons y t => simp at h1
  | cons x s ih => cases b with
    | nil => simp at h1
    | cons y t =>
      simp only [List.map_cons, List.cons.injEq] at h1
      have hx := ha x (by simp)
      have hy := hb y (by simp)
      have e : (UInt8.ofNat x.toNat).toNat = (UInt8.ofNat y.toNat).toNat := by rw [h1.1]
      simp at e
      have : x = y := by omega
      subst this
      rw [ih (fun z hz => ha z (by simp [hz])) (fun z hz => hb z (by simp [hz])) h1.2]


theorem IsBool.drewN {b : Bool} {w : World} {e : Ending} (he : e = .returned (.bool b)) (q : Nat) : IsBool b w e (w.drewN q) := ⟨he, ⟨rfl, rfl, rfl, Nat.le_refl _, fun _ _ => rfl⟩⟩

theorem IsBool.drewN2 {b : Bool} {w : World} {e : Ending} (he : e = .returned (.bool b)) (q q' : Nat) : IsBool b w e ((w.drewN q).drewN q') := ⟨he, ⟨rfl, rfl, rfl, Nat.le_refl _, fun _ _ => rfl⟩⟩

theorem all_eq {α : Type} {a b : List α} {n : Nat} (ha : a.length = n) (hb : b.length = n) (h : ∀ j, j < n → a[j]? = b[j]?) : a = b := by
  refine List.ext_getElem? fun j => ?_
  by_cases hj : j < n
  · exact h j hj
  · rw [List.getElem?_eq_none (by omega), List.getElem?_eq_none (by omega)]


abbrev T3 := Int × Int × Int
def c3 (l : List T3) : List Value := l.flatMap fun x => [.int .i32 x.1, .int .i64 x.2.1, .int .i64 x.2.2]
def tri (x : Cd) : T3 := (x.1, (x.2.1 : Int), (x.2.2.1 : Int))
theorem cdc_c3 (l : List Cd) : cdc l = c3 (l.map tri) := by simp [cdc, c3, tri, List.flatMap_map]
theorem c3_len (l : List T3) : (c3 l).length = l.length * 3 := by
  induction l with
  | nil => rfl
  | cons x l ih => simp [c3] at ih ⊢; omega
theorem c3_get : ∀ (l : List T3) (k : Nat) (h : k < l.length), (c3 l)[k * 3]? = some (.int .i32 l[k].1) ∧ (c3 l)[k * 3 + 1]? = some (.int .i64 l[k].2.1) ∧ (c3 l)[k * 3 + 2]? = some (.int .i64 l[k].2.2)
  | x :: l, 0, _ => by simp [c3]
  | x :: l, k + 1, h => by
    have ih := c3_get l k (by simpa using h)
    have e : c3 (x :: l) = [.int .i32 x.1, .int .i64 x.2.1, .int .i64 x.2.2] ++ c3 l := by simp [c3]
    rw [e, List.getElem?_append_right (by simp; omega), List.getElem?_append_right (by simp; omega), List.getElem?_append_right (by simp; omega)]
    simp only [List.length_cons, List.length_nil, List.getElem_cons_succ]
    rw [show (k + 1) * 3 - (0 + 1 + 1 + 1) = k * 3 from by omega, show (k + 1) * 3 + 1 - (0 + 1 + 1 + 1) = k * 3 + 1 from by omega, show (k + 1) * 3 + 2 - (0 + 1 + 1 + 1) = k * 3 + 2 from by omega]
    exact ih


end Go.Proofs.YtjkfppgekepbeaaDoor.Ut
