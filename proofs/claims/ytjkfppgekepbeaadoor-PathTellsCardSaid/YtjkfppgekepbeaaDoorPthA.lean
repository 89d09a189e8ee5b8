/-
  path as mathematics: percent codes of the path's set, parts between separators, walks.
-/
import Derived.Test.YtjkfppgekepbeaaDoorHstC
import Derived.Test.YtjkfppgekepbeaaDoorUtfMath2
import Derived.Lib.Case
import Derived.Lib.Join
namespace Go.Proofs.YtjkfppgekepbeaaDoor.Pth
set_option maxRecDepth 100000
open Go.RowKit Utf Ut Hst

/-- is a code point in the path's set -/
def inP (r : Int) : Bool := decide (r < 32 ∨ 126 < r) || decide (r ∈ ([63, 94, 96, 123, 125, 32, 34, 35, 60, 62] : List Int))
def pP (r : Int) : List Int := if inP r = true then cds (encOne r) else [r]
/-- code points, coded as a path's -/
def pe (l : List Int) : List Int := l.flatMap pP
/-- a part as a segment -/
def sg (l : List Int) : ByteArray := strOfNums (pe l)
/-- one dot, or two, in letters of either case -/
def sglL (l : List UInt8) : Bool := decide (Lib.toLowerA l = [46]) || decide (Lib.toLowerA l = [37, 50, 101])
def dblL (l : List UInt8) : Bool := decide (Lib.toLowerA l = [46, 46]) || decide (Lib.toLowerA l = [46, 37, 50, 101]) || decide (Lib.toLowerA l = [37, 50, 101, 46]) || decide (Lib.toLowerA l = [37, 50, 101, 37, 50, 101])
def sgl (s : ByteArray) : Bool := sglL (dl s)
def dbl (s : ByteArray) : Bool := dblL (dl s)
/-- a letter; a drive; one that is normalized -/
def ltr (r : Int) : Bool := decide (65 ≤ r ∧ r ≤ 90) || decide (97 ≤ r ∧ r ≤ 122)
def drv : List Int → Bool
  | [a, b] => ltr a && (b == 58 || b == 124)
  | _ => false
def nrm (l : List Int) : ByteArray := strOfNums [l.headD 0, 58]
def nmL : List UInt8 → Bool
  | [a, b] => b == 58 && ltr (a.toNat : Int)
  | _ => false
def nmd (s : ByteArray) : Bool := nmL (dl s)
/-- a path's only segment, that is a normalized drive -/
def soleD (l : List ByteArray) : Bool := match l with | [x] => nmd x | _ => false
/-- a path that is shortened -/
def shr (fl : Bool) (l : List ByteArray) : List ByteArray := if l.isEmpty || (fl && soleD l) then l else l.dropLast
/-- one part of a walk -/
def stp (fl : Bool) (l : List ByteArray) (p : List Int) (last : Bool) : List ByteArray :=
  if dbl (sg p) = true then shr fl l ++ (if last then [ByteArray.empty] else [])
  else if sgl (sg p) = true then l ++ (if last then [ByteArray.empty] else [])
  else if (fl && l.isEmpty && drv p) = true then l ++ [nrm p]
  else l ++ [sg p]
def sep (sp : Bool) (r : Int) : Bool := r == 47 || (sp && r == 92)
/-- the parts between separators -/
def prt (sp : Bool) : List Int → List (List Int)
  | [] => [[]]
  | r :: t => if sep sp r = true then [] :: prt sp t else match prt sp t with
    | [] => [[r]]
    | p :: q => (r :: p) :: q
/-- each with whether it is the last one -/
def mk : List (List Int) → List (List Int × Bool)
  | [] => []
  | [p] => [(p, true)]
  | p :: q :: t => (p, false) :: mk (q :: t)
def wgo (fl : Bool) (l : List ByteArray) (x : List (List Int × Bool)) : List ByteArray := x.foldl (fun l x => stp fl l x.1 x.2) l
/-- the path behind a walk -/
def wlk (sp fl : Bool) (l : List ByteArray) (t : List Int) : List ByteArray := wgo fl l (mk (prt sp t))

theorem prt_ne (sp : Bool) : ∀ t, prt sp t ≠ []
  | [] => by simp [prt]
  | r :: t => by
    rw [prt]
    split
    · simp
    · split <;> simp
theorem prt_app {sp : Bool} {a : List Int} (ha : ∀ r ∈ a, sep sp r = false) {s : Int} (hs : sep sp s = true) (b : List Int) : prt sp (a ++ s :: b) = a :: prt sp b := by
  induction a with
  | nil => rw [List.nil_append, prt, if_pos hs]
  | cons x t ih =>
    rw [List.cons_append, prt, if_neg (by rw [ha x (List.mem_cons_self ..)]; decide), ih (fun r hr => ha r (List.mem_cons_of_mem _ hr))]
theorem prt_none {sp : Bool} {a : List Int} (ha : ∀ r ∈ a, sep sp r = false) : prt sp a = [a] := by
  induction a with
  | nil => rfl
  | cons x t ih =>
    rw [prt, if_neg (by rw [ha x (List.mem_cons_self ..)]; decide), ih (fun r hr => ha r (List.mem_cons_of_mem _ hr))]
theorem prt_cons (sp : Bool) (r : Int) (t : List Int) : prt sp (r :: t) = if sep sp r = true then [] :: prt sp t else match prt sp t with
    | [] => [[r]]
    | p :: q => (r :: p) :: q := rfl
theorem prt_both (sp : Bool) {s : Int} (hs : sep sp s = true) (b : List Int) : ∀ a, prt sp (a ++ s :: b) = prt sp a ++ prt sp b
  | [] => by rw [List.nil_append, prt_cons, if_pos hs]; rfl
  | x :: t => by
    have ih := prt_both sp hs b t
    rw [List.cons_append, prt_cons, prt_cons]
    split
    · rw [ih]; rfl
    · rw [ih]
      cases h : prt sp t with
      | nil => exact absurd h (prt_ne sp t)
      | cons p q => rfl
theorem prt_free {sp : Bool} : ∀ {t : List Int}, ∀ p ∈ prt sp t, ∀ r ∈ p, sep sp r = false ∧ r ∈ t
  | [], p, hp, r, hr => by
    rw [prt, List.mem_singleton] at hp
    subst hp
    cases hr
  | x :: t, p, hp, r, hr => by
    rw [prt] at hp
    split at hp
    · rcases List.mem_cons.1 hp with rfl | hp
      · cases hr
      · exact ⟨(prt_free p hp r hr).1, List.mem_cons_of_mem _ (prt_free p hp r hr).2⟩
    · rename_i hx
      cases h : prt sp t with
      | nil => exact absurd h (prt_ne sp t)
      | cons q u =>
        rw [h] at hp
        have hx' : sep sp x = false := by simpa using hx
        rcases List.mem_cons.1 hp with rfl | hp
        · rcases List.mem_cons.1 hr with rfl | hr
          · exact ⟨hx', List.mem_cons_self ..⟩
          · have := prt_free (t := t) q (by rw [h]; exact List.mem_cons_self ..) r hr
            exact ⟨this.1, List.mem_cons_of_mem _ this.2⟩
        · have := prt_free (t := t) p (by rw [h]; exact List.mem_cons_of_mem _ hp) r hr
          exact ⟨this.1, List.mem_cons_of_mem _ this.2⟩
theorem mk_app : ∀ (a b : List (List Int)), b ≠ [] → mk (a ++ b) = a.map (fun p => (p, false)) ++ mk b
  | [], b, _ => rfl
  | [p], [], h => absurd rfl h
  | [p], q :: t, _ => rfl
  | p :: q :: t, b, h => by
    have ih := mk_app (q :: t) b h
    rw [List.cons_append, List.cons_append, mk, ← List.cons_append, ih]
    rfl
theorem mk_len : ∀ a : List (List Int), (mk a).length = a.length
  | [] => rfl
  | [p] => rfl
  | p :: q :: t => by rw [mk, List.length_cons, mk_len (q :: t)]; rfl
theorem mk_snoc (a : List (List Int)) (x : List Int) : mk (a ++ [x]) = a.map (fun p => (p, false)) ++ [(x, true)] := mk_app a [x] (by simp)
theorem wgo_app (fl : Bool) (l : List ByteArray) (a b : List (List Int × Bool)) : wgo fl l (a ++ b) = wgo fl (wgo fl l a) b := by
  unfold wgo
  rw [List.foldl_append]
theorem stp_plain {fl : Bool} {l : List ByteArray} {p : List Int} (h1 : dbl (sg p) = false) (h2 : sgl (sg p) = false) (b : Bool) : stp fl l p b = if (fl && l.isEmpty && drv p) = true then l ++ [nrm p] else l ++ [sg p] := by
  unfold stp
  rw [if_neg (by rw [h1]; decide), if_neg (by rw [h2]; decide)]
/-- the last part -/
def lst (sp : Bool) (t : List Int) : List Int := (prt sp t).getLastD []
theorem wlk_both {sp fl : Bool} {s : Int} (hs : sep sp s = true) (a b : List Int) (l : List ByteArray) (h1 : dbl (sg (lst sp a)) = false) (h2 : sgl (sg (lst sp a)) = false) : wlk sp fl l (a ++ s :: b) = wlk sp fl (wlk sp fl l a) b := by
  unfold wlk
  rw [prt_both sp hs, mk_app _ _ (prt_ne sp b), wgo_app]
  congr 1
  rcases List.eq_nil_or_concat (prt sp a) with h | ⟨A, x, h⟩
  · exact absurd h (prt_ne sp a)
  · rw [List.concat_eq_append] at h
    have hx : lst sp a = x := by unfold lst; rw [h]; simp
    rw [hx] at h1 h2
    rw [h, mk_snoc, List.map_append, wgo_app, wgo_app]
    unfold wgo
    simp only [List.map_cons, List.map_nil, List.foldl_cons, List.foldl_nil]
    rw [stp_plain h1 h2, stp_plain h1 h2]
/-- where the last part begins -/
theorem lst_at (sp : Bool) (a b : List Int) (h : ∀ r ∈ b, sep sp r = false) (ha : a = [] ∨ ∃ c s, a = c ++ [s] ∧ sep sp s = true) : lst sp (a ++ b) = b := by
  unfold lst
  rcases ha with rfl | ⟨c, s, rfl, hs⟩
  · rw [List.nil_append, prt_none h]; rfl
  · rw [List.append_assoc, List.singleton_append, prt_both sp hs, prt_none h]
    simp
end Go.Proofs.YtjkfppgekepbeaaDoor.Pth
