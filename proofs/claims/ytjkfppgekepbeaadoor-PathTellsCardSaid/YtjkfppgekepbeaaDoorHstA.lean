/-
  pct: what percent codes say; Digit, code, Decode.
-/
import Derived.Test.YtjkfppgekepbeaaDoorLow
import Derived.Test.YtjkfppgekepbeaaDoorSixA
import Derived.Test.YtjkfppgekepbeaaDoorAppendRow
import Derived.Deep.LoopGhost
import Derived.Deep.DeepCutAuto
import Derived.Laws.BitsLemmas
namespace Go.Proofs.YtjkfppgekepbeaaDoor.Hst
set_option maxRecDepth 100000
open Go.RowKit Utf Ut
open Sx (dv)

abbrev dl (s : ByteArray) : List UInt8 := s.data.toList
/-- bytes as numbers -/
def bi (l : List UInt8) : List Int := l.map fun c => (c.toNat : Int)
/-- the byte that a text begins with, and whether it stands coded -/
def cod : List UInt8 → Nat × Bool
  | [] => (0, false)
  | c :: t => if c = 37 then match t with
      | a :: b :: _ => if dv a < 16 ∧ dv b < 16 then (dv a * 16 + dv b, true) else (37, false)
      | _ => (37, false)
    else (c.toNat, false)
def pgo : Nat → List UInt8 → List Int
  | _, [] => []
  | k + 1, _ :: t => pgo k t
  | 0, c :: t => ((cod (c :: t)).1 : Int) :: pgo (if (cod (c :: t)).2 = true then 2 else 0) t
/-- the bytes of a text, percent codes decoded -/
def pdec (l : List UInt8) : List Int := pgo 0 l
theorem pgo_skip : ∀ (k : Nat) (l : List UInt8), pgo k l = pgo 0 (l.drop k)
  | 0, l => rfl
  | k + 1, [] => rfl
  | k + 1, c :: t => by rw [pgo, pgo_skip k t]; rfl
theorem pgo_step {l : List UInt8} {i : Nat} (h : i < l.length) : pgo 0 (l.drop i) = ((cod (l.drop i)).1 : Int) :: pgo 0 (l.drop (i + 1 + if (cod (l.drop i)).2 = true then 2 else 0)) := by
  cases hd : l.drop i with
  | nil => have := congrArg List.length hd; rw [List.length_drop] at this; simp at this; omega
  | cons c t =>
    have ht : t = l.drop (i + 1) := by rw [← List.drop_drop, hd]; rfl
    rw [pgo, pgo_skip, ht, List.drop_drop]
theorem cod_len {l : List UInt8} (h : (cod l).2 = true) : 3 ≤ l.length := by
  unfold cod at h
  split at h
  · cases h
  · split at h
    · split at h
      · simp
      · cases h
    · cases h
theorem dv_cases (c : UInt8) : (48 ≤ c.toNat ∧ c.toNat ≤ 57 ∧ dv c = c.toNat - 48) ∨ (97 ≤ c.toNat ∧ c.toNat ≤ 102 ∧ dv c = c.toNat - 87) ∨ (65 ≤ c.toNat ∧ c.toNat ≤ 70 ∧ dv c = c.toNat - 55) ∨ (dv c = 99 ∧ (c.toNat < 48 ∨ 57 < c.toNat) ∧ (c.toNat < 97 ∨ 102 < c.toNat) ∧ (c.toNat < 65 ∨ 70 < c.toNat)) := by
  unfold dv
  split
  · left; omega
  · split
    · right; left; omega
    · split
      · right; right; left; omega
      · right; right; right; omega
/-- a digit's worth, and whether it is one -/
def DigR (d : Nat) (w : World) (e : Ending) (w' : World) : Prop := e = .returned (if d < 16 then .tuple #[.int .i64 (d : Int), .bool true] else .tuple #[.int .i64 0, .bool false]) ∧ w = w'
/-- what a text begins with -/
def CodR (l : List UInt8) (w : World) (e : Ending) (w' : World) : Prop := e = .returned (.tuple #[.int .u8 ((cod l).1 : Int), .bool (cod l).2]) ∧ w = w'
theorem codR_mk {l : List UInt8} {v : Nat} {q : Bool} {x : Int} {w : World} (h : cod l = (v, q)) (hx : x = (v : Int)) : CodR l w (.returned (.tuple #[.int .u8 x, .bool q])) w := by
  unfold CodR
  rw [h, hx]
  exact ⟨rfl, rfl⟩
theorem or4 {a b : Nat} (ha : a < 16) (hb : b < 16) : bits .or .i64 ((a : Int) * 16) (b : Int) = (a : Int) * 16 + (b : Int) := by
  refine Go.bits_join .i64 8 (by decide) (fun n h0 h1 => IntWalk.i64_in _ (by omega)) 4 _ _ (by omega) ?_ ?_ (by omega) ?_ ?_
  all_goals simp only [show (2 : Int) ^ 4 = 16 from rfl, show (2 : Int) ^ 8 = 256 from rfl]
  all_goals omega
end Go.Proofs.YtjkfppgekepbeaaDoor.Hst
