import Derived.Test.YtenfdnnagijfnaaGreatDoorNormK
import Derived.Shelf.SlSortCmp.KitK
import Derived.Shelf.SlicesQ.IndexFunc
/-
  norm: the library's own functions at []classed, laid; the closure and the method that they are handed.
-/
namespace Go.Proofs.YtenfdnnagijfnaaGreatDoor
open Go.RowKit Norm Go.Shelf Go.Sort Go.Lib

def renC : Ren := ⟨fun | 20 => 127 | n => n, fun | 22 => 57 | 24 => 60 | 25 => 107 | 0 => 0 | 3 => 3 | 4 => 4 | n => n, fun n => n⟩
theorem insLaid : SlLaysF0.n20 Tryz.prog renC := {
  mixed := by kernel_rfl
  f20 := ⟨Tryz.f127.name, by decide +kernel, by kernel_rfl⟩
  t0 := Tryz.underlying0
  a0 := Tryz.isAgg0
  z0 := Tryz.sizeOf0
  v0 := Tryz.zeroValue0
  t3 := Tryz.underlying3
  a3 := Tryz.isAgg3
  z3 := Tryz.sizeOf3
  v3 := Tryz.zeroValue3
  t4 := Tryz.underlying4
  a4 := Tryz.isAgg4
  z4 := Tryz.sizeOf4
  v4 := Tryz.zeroValue4
  t22 := Tryz.underlying57
  a22 := Tryz.isAgg57
  z22 := Tryz.sizeOf57
  v22 := Tryz.zeroValue57
  t25 := Tryz.underlying107
  a25 := Tryz.isAgg107
  z25 := Tryz.sizeOf107
  v25 := Tryz.zeroValue107 }
def renH : Ren := ⟨fun | 6 => 89 | n => n, fun | 22 => 57 | 23 => 60 | 25 => 104 | 0 => 0 | 3 => 3 | 4 => 4 | n => n, fun n => n⟩
theorem idxLaid : SlLaysH0.n6 Tryz.prog renH := {
  mixed := by kernel_rfl
  f6 := ⟨Tryz.f89.name, by decide +kernel, by kernel_rfl⟩
  t0 := Tryz.underlying0
  a0 := Tryz.isAgg0
  z0 := Tryz.sizeOf0
  v0 := Tryz.zeroValue0
  t3 := Tryz.underlying3
  a3 := Tryz.isAgg3
  z3 := Tryz.sizeOf3
  v3 := Tryz.zeroValue3
  t4 := Tryz.underlying4
  a4 := Tryz.isAgg4
  z4 := Tryz.sizeOf4
  v4 := Tryz.zeroValue4
  t22 := Tryz.underlying57
  a22 := Tryz.isAgg57
  z22 := Tryz.sizeOf57
  v22 := Tryz.zeroValue57
  t25 := Tryz.underlying104
  a25 := Tryz.isAgg104
  z25 := Tryz.sizeOf104
  v25 := Tryz.zeroValue104 }

/-! cmp.Compare at bytes; the closure; the method -/
def encC (x : C) : List Value := [.int .i32 x.1, .int .u8 x.2]
theorem encC_len (x : C) : (encC x).length = 2 := rfl
theorem encC_one (x : C) : ∀ v ∈ encC x, v.oneCell' = true := by
  intro v hv
  simp [encC] at hv
  rcases hv with rfl | rfl <;> rfl
theorem cmp8_any (x y : Int) (w : World) : Calls Tryz.prog 92 #[.int .u8 x, .int .u8 y] w (Gives (.int .i64 (cmpZ x y)) w) := by
  by_cases h1 : x < y
  · have HC : Hid (cmpZ x y = -1) := Lib.hid (by unfold cmpZ; rw [if_pos h1])
    go_enter Tryz.func92, Tryz.ntmps92
    go_wp2
    go_ret
    exact ⟨by rw [HC.out]; rfl, rfl⟩
  · by_cases h2 : y < x
    · have HC : Hid (cmpZ x y = 1) := Lib.hid (by unfold cmpZ; rw [if_neg h1, if_pos h2])
      go_enter Tryz.func92, Tryz.ntmps92
      go_wp2
      go_ret
      exact ⟨by rw [HC.out]; rfl, rfl⟩
    · have HC : Hid (cmpZ x y = 0) := Lib.hid (by unfold cmpZ; rw [if_neg h1, if_neg h2])
      go_enter Tryz.func92, Tryz.ntmps92
      go_wp2
      go_ret
      exact ⟨by rw [HC.out]; rfl, rfl⟩

def cfC (x y : C) : Int := cmpZ x.2 y.2
theorem closure_any (x y : C) (W : World) : Calls Tryz.prog 91 #[.agg #[.int .i32 x.1, .int .u8 x.2], .agg #[.int .i32 y.1, .int .u8 y.2]] W fun e w' => e = .returned (.int .i64 (cfC x y)) ∧ ∃ q os', w' = grow (W.drewN q) os' := by
  have HC := Lib.hid (fun w => cmp8_any x.2 y.2 w)
  unfold cfC
  generalize cmpZ x.2 y.2 = r at HC ⊢
  go_enter Tryz.func91, Tryz.ntmps91
  go_wp2_with (first | (go_at_call 92; refine (HC.out _).mono ?_; rintro e w' ⟨rfl, rfl⟩) | fail)
  go_ret
  exact ⟨rfl, 0, _, by rw [alloc_eq_grow, alloc_eq_grow, grow_grow]; rfl⟩
theorem cmpLays (blk off size : Nat) (w : World) : CmpLays Tryz.prog 91 #[] encC 2 cfC blk off size w := fun _ _ _ _ x y => closure_any x y _

def isSt (x : C) : Bool := x.2 == 0
theorem starter_any (w : World) : PredBelow Tryz.prog 60 #[] (fun x => .agg (encC x).toArray) isSt w := fun W x hb => by
  show Calls Tryz.prog 60 #[.agg #[.int .i32 x.1, .int .u8 x.2]] W _
  by_cases h0 : x.2 = 0
  · have HE : Hid (isSt x = true) := Lib.hid (by unfold isSt; rw [h0]; rfl)
    have hz : (x.2 == 0) = true := by rw [h0]; rfl
    go_enter Tryz.func60, Tryz.ntmps60
    go_wp2
    go_ret
    exact ⟨by rw [HE.out]; first | rfl | (simp [h0]), hb.alloc hb.size _⟩
  · have HE : Hid (isSt x = false) := Lib.hid (by unfold isSt; simp [h0])
    go_enter Tryz.func60, Tryz.ntmps60
    go_wp2
    go_ret
    exact ⟨by rw [HE.out]; first | rfl | (simp [h0]), hb.alloc hb.size _⟩

theorem eCl : ∀ args w, (callFunc 91 args).run Tryz.prog w = .ok (.enter 91 args) w := enters_of Tryz.func91 (by kernel_rfl) rfl
theorem eSt : ∀ args w, (callFunc 60 args).run Tryz.prog w = .ok (.enter 60 args) w := enters_of Tryz.func60 (by kernel_rfl) rfl

theorem ins_any (blk off cap a b : Nat) (d : Array C) (w : World) (hH : HoldsK encC 2 w blk off d) (hblk : blk < w.heap.size) (hab : a ≤ b) (hb : b ≤ d.size) (hsz : d.size ≤ 1000000) :
    Calls Tryz.prog 127 #[.slice (some ⟨blk, off, none⟩) d.size cap, .int .i64 a, .int .i64 b, .func (.func 91) #[] #[]] w fun e w' =>
      e = .returned (.tuple #[]) ∧ ∃ n os, w' = sortWorldK encC 2 w blk off n (Sort.insertionSort (ltOf cfC) d a b) os :=
  AnyQ.insertionSortCmpFunc insLaid 2 Tryz.isAgg60 Tryz.sizeOf60 encC encC_len encC_one cfC _ #[] blk off cap a b d w eCl (cmpLays blk off d.size w) hH hblk hab hb (by omega)

theorem idx_any (b off n c : Nat) (zs : List C) (w : World) (hz : n = zs.length) (hbig : n ≤ 1000000) (hb : b < w.heap.size)
    (hc : ∀ j, j < zs.length → ∀ i v, (encC zs[j]!)[i]? = some v → w.cell? ⟨b, off + j * 2 + i, none⟩ = some v) :
    Calls Tryz.prog 89 #[.slice (some ⟨b, off, none⟩) n c, .func (.func 60) #[] #[]] w fun e w' => e = .returned (.int .i64 (Lib.idxBy (fun _ y => isSt y) (zs.take n) default)) ∧ Below w.heap.size w w' :=
  AnyQ.slices_IndexFunc idxLaid 2 Tryz.isAgg60 Tryz.sizeOf60 encC encC_len isSt _ #[] eSt b off n c zs w (starter_any w) (by omega) (by omega) hb hc
end Go.Proofs.YtenfdnnagijfnaaGreatDoor

/-
  norm: in canonical order, as plain mathematics: what is sorted by class, those of one class in their order, is unique; the insertion sort is such a sort.
-/
namespace Go.Proofs.YtenfdnnagijfnaaGreatDoor
open Norm Go.Sort

def Srt (l : List C) : Prop := l.Pairwise (fun a b => a.2 ≤ b.2)
def Stb (l l' : List C) : Prop := ∀ c : Int, l.filter (fun x => x.2 == c) = l'.filter (fun x => x.2 == c)
theorem Stb.refl (l : List C) : Stb l l := fun _ => rfl
theorem Stb.trans {a b c : List C} (h : Stb a b) (k : Stb b c) : Stb a c := fun x => (h x).trans (k x)
theorem Stb.symm {a b : List C} (h : Stb a b) : Stb b a := fun x => (h x).symm
theorem Stb.mem {l l' : List C} (h : Stb l l') {y : C} (hy : y ∈ l) : y ∈ l' := by
  have h1 : y ∈ l.filter (fun x => x.2 == y.2) := List.mem_filter.2 ⟨hy, by simp⟩
  rw [h y.2] at h1
  exact (List.mem_filter.1 h1).1
theorem Stb.append {a b c d : List C} (h : Stb a b) (k : Stb c d) : Stb (a ++ c) (b ++ d) := fun x => by rw [List.filter_append, List.filter_append, h x, k x]
theorem srt_unique : ∀ l l' : List C, Srt l → Srt l' → Stb l l' → l = l'
  | [], [], _, _, _ => rfl
  | [], y :: t, _, _, h => by have := h.symm.mem (List.mem_cons_self (a := y) (l := t)); simp at this
  | x :: t, [], _, _, h => by have := h.mem (List.mem_cons_self (a := x) (l := t)); simp at this
  | x :: t, y :: t', hs, hs', h => by
    have hs1 := List.pairwise_cons.1 hs
    have hs2 := List.pairwise_cons.1 hs'
    have e1 : x.2 ≤ y.2 := by
      rcases List.mem_cons.1 (h.symm.mem (List.mem_cons_self (a := y) (l := t'))) with e | e
      · rw [e]; exact Int.le_refl _
      · exact hs1.1 y e
    have e2 : y.2 ≤ x.2 := by
      rcases List.mem_cons.1 (h.mem (List.mem_cons_self (a := x) (l := t))) with e | e
      · rw [e]; exact Int.le_refl _
      · exact hs2.1 x e
    have e3 : x.2 = y.2 := Int.le_antisymm e1 e2
    have h1 := h x.2
    rw [List.filter_cons_of_pos (by simp), List.filter_cons_of_pos (by simp [e3])] at h1
    have hxy : x = y := (List.cons.inj h1).1
    subst hxy
    rw [srt_unique t t' hs1.2 hs2.2 fun c => by
      have := h c
      by_cases hc : x.2 = c
      · rw [List.filter_cons_of_pos (by simp [hc]), List.filter_cons_of_pos (by simp [hc])] at this
        exact (List.cons.inj this).2
      · rw [List.filter_cons_of_neg (by simp [hc]), List.filter_cons_of_neg (by simp [hc])] at this
        exact this]

theorem mem_insC (x z : C) : ∀ l, z ∈ insC x l ↔ z = x ∨ z ∈ l
  | [] => by simp [insC]
  | y :: t => by
    unfold insC
    split
    · simp
    · rw [List.mem_cons, mem_insC x z t, List.mem_cons]
      constructor
      · rintro (h | h | h) <;> simp [h]
      · rintro (h | h | h) <;> simp [h]
theorem insC_srt (x : C) : ∀ l, Srt l → Srt (insC x l)
  | [], _ => List.pairwise_singleton _ _
  | y :: t, h => by
    have h1 := List.pairwise_cons.1 h
    unfold insC
    split
    · rename_i hlt
      refine List.pairwise_cons.2 ⟨fun z hz => ?_, h⟩
      rcases List.mem_cons.1 hz with rfl | hz
      · exact Int.le_of_lt hlt
      · exact Int.le_trans (Int.le_of_lt hlt) (h1.1 z hz)
    · rename_i hge
      refine List.pairwise_cons.2 ⟨fun z hz => ?_, insC_srt x t h1.2⟩
      rcases (mem_insC x z t).1 hz with rfl | hz
      · omega
      · exact h1.1 z hz
theorem insC_stb (x : C) (c : Int) : ∀ l, Srt l → (insC x l).filter (fun x => x.2 == c) = l.filter (fun x => x.2 == c) ++ [x].filter (fun x => x.2 == c)
  | [], _ => by simp [insC]
  | y :: t, h => by
    have h1 := List.pairwise_cons.1 h
    unfold insC
    split
    · rename_i hlt
      by_cases hc : x.2 = c
      · have : (y :: t).filter (fun x => x.2 == c) = [] := by
          rw [List.filter_eq_nil_iff]
          intro z hz
          rcases List.mem_cons.1 hz with rfl | hz
          · simp; omega
          · have := h1.1 z hz; simp; omega
        rw [List.filter_cons, if_pos (by simp [hc]), this]
        simp [hc]
      · rw [List.filter_cons, if_neg (by simp [hc])]
        simp [hc]
    · by_cases hc : y.2 = c
      · rw [List.filter_cons_of_pos (a := y) (by simp [hc]), insC_stb x c t h1.2, List.filter_cons_of_pos (a := y) (by simp [hc])]
        rfl
      · rw [List.filter_cons_of_neg (a := y) (by simp [hc]), insC_stb x c t h1.2, List.filter_cons_of_neg (a := y) (by simp [hc])]
theorem foldIns : ∀ (l acc : List C), Srt acc → Srt (l.foldl (fun a x => insC x a) acc) ∧ ∀ c : Int, (l.foldl (fun a x => insC x a) acc).filter (fun x => x.2 == c) = acc.filter (fun x => x.2 == c) ++ l.filter (fun x => x.2 == c)
  | [], acc, h => ⟨h, fun c => by simp⟩
  | x :: t, acc, h => by
    obtain ⟨h1, h2⟩ := foldIns t (insC x acc) (insC_srt x acc h)
    refine ⟨h1, fun c => ?_⟩
    rw [List.foldl_cons, h2 c, insC_stb x c acc h, List.append_assoc, ← List.filter_append]
    rfl
theorem isort_srt (l : List C) : Srt (isort l) := (foldIns l [] List.Pairwise.nil).1
theorem isort_stb (l : List C) : Stb l (isort l) := fun c => by rw [isort, (foldIns l [] List.Pairwise.nil).2 c]; rfl
theorem isort_of {l l' : List C} (h : Srt l') (k : Stb l l') : l' = isort l := srt_unique _ _ h (isort_srt l) (k.symm.trans (isort_stb l))
theorem isort_srt_self {l : List C} (h : Srt l) : isort l = l := (isort_of h (Stb.refl l)).symm
theorem stb_len {l l' : List C} (h : Stb l l') : l.length = l'.length := by
  have : List.Perm l l' := by
    rw [List.perm_iff_count]
    intro a
    have := h a.2
    have e : ∀ l : List C, l.count a = (l.filter (fun x => x.2 == a.2)).count a := fun l => by rw [List.count_filter (by simp)]
    rw [e l, e l', this]
  exact this.length_eq
theorem isort_len (l : List C) : (isort l).length = l.length := (stb_len (isort_stb l)).symm

/-! the array's insertion sort -/
theorem ltC (x y : C) : ltOf cfC x y = decide (x.2 < y.2) := by
  unfold Go.Proofs.ltOf cfC cmpZ
  by_cases h : x.2 < y.2
  · simp [h]
  · rw [if_neg h]
    split <;> simp [h]
theorem swoC : SWO (ltOf cfC) := ⟨fun x => by simp [ltC], fun x y z h1 h2 => by simp [ltC] at *; omega, fun x y z h1 h2 => by simp [ltC] at *; omega⟩
theorem toList_swp (d : Array C) (i j : Nat) : (swp d i j).toList = (d.toList.set i d[j]!).set j d[i]! := by simp [swp]
theorem swp_stb {d : Array C} {j : Nat} (hj : j + 1 < d.size) (hne : d[j + 1]!.2 ≠ d[j]!.2) : Stb d.toList (swp d (j + 1) j).toList := by
  rw [toList_swp]
  have hl : j + 1 < d.toList.length := by simpa using hj
  have e : d.toList = d.toList.take j ++ d[j]! :: d[j + 1]! :: d.toList.drop (j + 2) := by
    conv => lhs; rw [← List.take_append_drop j d.toList]
    congr 1
    rw [List.drop_eq_getElem_cons (by omega), List.drop_eq_getElem_cons (by omega)]
    simp [getElem!_pos, hj, show j < d.size by omega]
  have hlen : (d.toList.take j).length = j := by simp; omega
  generalize d[j]! = x at e hne ⊢
  generalize d[j + 1]! = y at e hne ⊢
  generalize d.toList.take j = p at e hlen
  generalize d.toList.drop (j + 2) = s at e
  rw [e]
  subst hlen
  intro c
  have e2 : ((p ++ x :: y :: s).set (p.length + 1) x).set p.length y = p ++ y :: x :: s := by simp
  rw [e2, List.filter_append, List.filter_append, List.filter_cons, List.filter_cons, List.filter_cons, List.filter_cons]
  by_cases h1 : x.2 = c
  · have h2 : y.2 ≠ c := fun h => hne (h.trans h1.symm)
    simp [h1, h2]
  · simp [h1]
theorem swp_size' (d : Array C) (i j : Nat) : (swp d i j).size = d.size := by simp [swp]
theorem insInner_stb (a : Nat) : ∀ (j : Nat) (d : Array C), j < d.size → Stb d.toList (insInner (ltOf cfC) a j d).toList ∧ (insInner (ltOf cfC) a j d).size = d.size
  | 0, d, _ => ⟨Stb.refl _, rfl⟩
  | j + 1, d, h => by
    rw [insInner]
    split
    · rename_i hc
      simp only [Bool.and_eq_true, ltC, decide_eq_true_eq] at hc
      have h1 := swp_stb h (by have := hc.2; omega)
      obtain ⟨h2, h3⟩ := insInner_stb a j (swp d (j + 1) j) (by rw [swp_size']; omega)
      exact ⟨h1.trans h2, by rw [h3, swp_size']⟩
    · exact ⟨Stb.refl _, rfl⟩
theorem insOuter_stb (a b : Nat) : ∀ (n i : Nat) (d : Array C), b - i ≤ n → b ≤ d.size → Stb d.toList (insOuter (ltOf cfC) a b i d).toList ∧ (insOuter (ltOf cfC) a b i d).size = d.size
  | 0, i, d, hn, hb => by
    rw [insOuter, if_neg (by omega)]
    exact ⟨Stb.refl _, rfl⟩
  | n + 1, i, d, hn, hb => by
    rw [insOuter]
    split
    · obtain ⟨h1, h2⟩ := insInner_stb a i d (by omega)
      obtain ⟨h3, h4⟩ := insOuter_stb a b n (i + 1) (insInner (ltOf cfC) a i d) (by omega) (by omega)
      exact ⟨h1.trans h3, h4.trans h2⟩
    · exact ⟨Stb.refl _, rfl⟩
theorem insertion_stb (d : Array C) (a b : Nat) (hb : b ≤ d.size) : Stb d.toList (insertionSort (ltOf cfC) d a b).toList ∧ (insertionSort (ltOf cfC) d a b).size = d.size := insOuter_stb a b _ (a + 1) d (Nat.le_refl _) hb
theorem srt_of {d : Array C} (h : SortedIn (ltOf cfC) 0 d.size d) : Srt d.toList := by
  unfold Srt
  rw [List.pairwise_iff_getElem]
  intro i j hi hj hij
  have := h i j (Nat.zero_le _) hij (by simpa using hj)
  rw [ltC] at this
  simp only [decide_eq_false_iff_not] at this
  have hi' : i < d.size := by simpa using hi
  have hj' : j < d.size := by simpa using hj
  rw [getElem!_pos d i hi', getElem!_pos d j hj'] at this
  simp only [Array.getElem_toList]
  omega
theorem insertion_isort (d : Array C) : insertionSort (ltOf cfC) d 0 d.size = (isort d.toList).toArray := by
  obtain ⟨h1, h2⟩ := insertion_stb d 0 d.size (Nat.le_refl _)
  have h3 := (insertionSort_holds (lt := ltOf cfC) swoC d 0 d.size (Nat.zero_le _) (Nat.le_refl _)).2
  rw [← isort_of (srt_of (by rw [h2]; exact h3)) h1]
end Go.Proofs.YtenfdnnagijfnaaGreatDoor

/-
  norm: slices.SortStableFunc at []classed: what is asked of it; up to nineteen; a row of the call's own behind it.
-/
namespace Go.Proofs.YtenfdnnagijfnaaGreatDoor
open Go.RowKit Norm Go.Shelf Go.Sort Go.Lib

def Sorted1 (blk off : Nat) (d : Array C) (w : World) (e : Ending) (w' : World) : Prop := e = .returned (.tuple #[]) ∧ ∃ n os, w' = sortWorldK encC 2 w blk off n (isort d.toList).toArray os
def StableCmpOk (N : Nat) : Prop := ∀ (blk off cap : Nat) (d : Array C) (w : World), HoldsK encC 2 w blk off d → blk < w.heap.size → d.size ≤ N →
  Calls Tryz.prog 113 #[.slice (some ⟨blk, off, none⟩) d.size cap, .int .i64 d.size, .func (.func 91) #[] #[]] w (Sorted1 blk off d w)
def StableOk (N : Nat) : Prop := ∀ (blk off cap : Nat) (d : Array C) (w : World), HoldsK encC 2 w blk off d → blk < w.heap.size → d.size ≤ N →
  Calls Tryz.prog 90 #[.slice (some ⟨blk, off, none⟩) d.size cap, .func (.func 91) #[] #[]] w (Sorted1 blk off d w)

theorem stable_of_cmp {N : Nat} (h : StableCmpOk N) : StableOk N := by
  intro blk off cap d w hH hb hd
  have HC := Lib.hid (h blk off cap d w hH hb hd)
  clear hH h
  go_enter Tryz.func90, Tryz.ntmps90
  go_wp2_with (first | (go_at_call 113; refine HC.out.mono ?_; rintro e w' ⟨rfl, hS⟩) | fail)
  go_end0
  exact ⟨rfl, hS⟩

theorem stableCmp19 : StableCmpOk 19 := by
  intro blk off cap d w hH hb hd
  have HC : Hid (Calls Tryz.prog 127 #[.slice (some ⟨blk, off, none⟩) d.size cap, .int .i64 0, .int .i64 d.size, .func (.func 91) #[] #[]] w (Sorted1 blk off d w)) := Lib.hid ((ins_any blk off cap 0 d.size d w hH hb (Nat.zero_le _) (Nat.le_refl _) (by omega)).mono fun _ _ ⟨h1, n, os, h2⟩ => ⟨h1, n, os, by rw [h2, insertion_isort]⟩)
  have h20 : ¬ (20 : Int) ≤ (d.size : Int) := by omega
  have h20b : ¬ (20 : Int) < (d.size : Int) := by omega
  clear hH
  go_enter Tryz.func113, Tryz.ntmps113
  go_wp2
  go_loop [7, 8] (fun a b => a = .int .i64 0 ∧ b = .int .i64 20) (fun _ _ => 0)
  case atStart => exact ⟨rfl, rfl⟩
  case round =>
    obtain ⟨rfl, rfl⟩ := hrel
    go_wp2_with (first | (go_at_call 127; refine HC.out.mono ?_; rintro e w' ⟨rfl, hS⟩) | fail)
    refine wp_loop_rounds 1 ?_
    rw [rounds_succ]
    go_wp2_with fail
    go_end0
    exact ⟨rfl, hS⟩
theorem stable19 : StableOk 19 := stable_of_cmp stableCmp19
end Go.Proofs.YtenfdnnagijfnaaGreatDoor

/-
  norm: a row of classed of the call's own, before and behind a sort of a part of it.
-/
namespace Go.Proofs.YtenfdnnagijfnaaGreatDoor
open Go.RowKit Norm Go.Shelf Go.Sort Go.Lib

def c2 (l : List C) : List Value := l.flatMap encC
theorem c2_len (l : List C) : (c2 l).length = l.length * 2 := by
  induction l with
  | nil => rfl
  | cons x t ih => unfold c2 at ih ⊢; rw [List.flatMap_cons, List.length_append, ih, List.length_cons, encC_len]; omega
theorem c2_append (a b : List C) : c2 (a ++ b) = c2 a ++ c2 b := by unfold c2; rw [List.flatMap_append]
theorem c2_get : ∀ (l : List C) (t : Nat), t < l.length * 2 → (c2 l)[t]? = some ((encC l[t / 2]!)[t % 2]!)
  | [], t, h => by simp at h
  | x :: l, 0, _ => rfl
  | x :: l, 1, _ => rfl
  | x :: l, t + 2, h => by
    have h1 := c2_get l t (by simp only [List.length_cons] at h; omega)
    have e : (c2 (x :: l))[t + 2]? = (c2 l)[t]? := by
      show (encC x ++ c2 l)[t + 2]? = _
      rw [List.getElem?_append_right (by simp [encC])]
      simp [encC]
    rw [e, h1, show (t + 2) / 2 = t / 2 + 1 from by omega, show (t + 2) % 2 = t % 2 from by omega]
    simp
theorem flatK_c2 (l : List C) : (flatK encC 2 l.toArray).toList = c2 l := by
  apply List.ext_getElem?
  intro t
  by_cases h : t < l.length * 2
  · rw [c2_get l t h]
    have hs : (flatK encC 2 l.toArray).size = l.length * 2 := by simp [flatK]
    rw [Array.getElem?_toList, Array.getElem?_eq_getElem (by omega)]
    have := get_flatK encC 2 l.toArray t (by simpa using h)
    rw [getElem!_pos _ t (by omega)] at this
    rw [this]
    simp
  · rw [List.getElem?_eq_none (by simp [flatK]; omega), List.getElem?_eq_none (by rw [c2_len]; omega)]
theorem flatK_sz (l : List C) : (flatK encC 2 l.toArray).size = l.length * 2 := by simp [flatK]

section
variable {w : World} {base g cap n : Nat} {e : TypeId} {P M S : List C}
theorem own_holds (h : w.ownsRow base e 2 (.slice (some ⟨g, 0, none⟩) n cap) n (c2 (P ++ M ++ S))) : HoldsK encC 2 w g (2 * P.length) M.toArray ∧ g < w.heap.size ∧ base ≤ g := by
  rcases h.2 with ⟨h0, _⟩ | ⟨g', cap', cur, hv, hbase, hb, h1, h2, h3, ht⟩
  · cases h0
  cases hv
  refine ⟨fun j hj => ⟨?_, by simp [World.frozen?, hb]⟩, (Array.getElem?_eq_some_iff.1 hb).1, hbase⟩
  have hn := h.1
  rw [c2_len, List.length_append, List.length_append] at hn
  rw [flatK_sz] at hj
  have h4 : (cur.toList.take (n * 2))[2 * P.length + j]? = (c2 (P ++ M ++ S))[2 * P.length + j]? := by rw [ht]
  rw [List.getElem?_take_of_lt (by omega)] at h4
  simp only [World.cell?, hb]
  simp only [Option.isSome_none, Bool.false_eq_true, if_false]
  rw [← Array.getElem?_toList, h4, c2_append, c2_append, List.append_assoc, List.getElem?_append_right (by rw [c2_len]; omega), c2_len, show 2 * P.length + j - P.length * 2 = j from by omega, List.getElem?_append_left (by rw [c2_len]; omega), ← flatK_c2, Array.getElem?_toList, Array.getElem?_eq_getElem (by rw [flatK_sz]; omega)]
  rw [getElem!_pos _ j (by rw [flatK_sz]; omega)]
  rfl
theorem own_put {M' : List C} (h : w.ownsRow base e 2 (.slice (some ⟨g, 0, none⟩) n cap) n (c2 (P ++ M ++ S))) (hl : M'.length = M.length) (q : Nat) (os : Array Obj) :
    (sortWorldK encC 2 w g (2 * P.length) q M'.toArray os).ownsRow base e 2 (.slice (some ⟨g, 0, none⟩) n cap) n (c2 (P ++ M' ++ S)) ∧ w.grownBy (sortWorldK encC 2 w g (2 * P.length) q M'.toArray os) (some g) := by
  rcases h.2 with ⟨h0, _⟩ | ⟨g', cap', cur, hv, hbase, hb, h1, h2, h3, ht⟩
  · cases h0
  cases hv
  have hn := h.1
  rw [c2_len, List.length_append, List.length_append] at hn
  have hg : g < w.heap.size := (Array.getElem?_eq_some_iff.1 hb).1
  have hblk : (sortWorldK encC 2 w g (2 * P.length) q M'.toArray os).heap[g]? = some (.cells (putCells id (2 * P.length) (flatK encC 2 M'.toArray) cur) e (0, 0)) := by
    unfold sortWorldK putRowK
    rw [heap_grow_old _ _ (by simpa using hg)]
    simp [putRow, mapBlock, Sort.ahead, Array.getElem?_modify, hb, onCells]
  refine ⟨⟨by rw [c2_len, List.length_append, List.length_append]; omega, .inr ⟨g, cap, _, rfl, hbase, hblk, h1, h2, by simp [putCells, h3], ?_⟩⟩, rfl, rfl, rfl, by simp [sortWorldK, putRowK], fun k hk hne => ?_⟩
  · apply List.ext_getElem?
    intro t
    by_cases hlt : t < n * 2
    · have hc : t < cur.size := by rw [h3]; have := Nat.mul_le_mul_right 2 h1; omega
      have h4 : (cur.toList.take (n * 2))[t]? = (c2 (P ++ M ++ S))[t]? := by rw [ht]
      rw [List.getElem?_take_of_lt hlt, Array.getElem?_toList] at h4 ⊢
      unfold putCells
      rw [Array.getElem?_mapIdx, Array.getElem?_eq_getElem hc, Option.map_some, flatK_sz]
      rw [Array.getElem?_eq_getElem hc] at h4
      split
      · rename_i hw
        rw [getElem!_pos _ (t - 2 * P.length) (by rw [flatK_sz]; omega), id_eq, ← Array.getElem?_eq_getElem, ← Array.getElem?_toList, flatK_c2, c2_append, c2_append, List.append_assoc, List.getElem?_append_right (by rw [c2_len]; omega), c2_len, List.getElem?_append_left (by rw [c2_len]; omega), Nat.mul_comm 2]
      · rename_i hw
        rw [h4, c2_append, c2_append, c2_append, c2_append, List.append_assoc, List.append_assoc]
        by_cases hp : t < P.length * 2
        · rw [List.getElem?_append_left (by rw [c2_len]; omega), List.getElem?_append_left (by rw [c2_len]; omega)]
        · have e1 := c2_len P
          have e2 := c2_len M
          have e3 := c2_len M'
          rw [List.getElem?_append_right (l₁ := c2 P) (by omega), List.getElem?_append_right (l₁ := c2 P) (by omega), List.getElem?_append_right (l₁ := c2 M) (by omega), List.getElem?_append_right (l₁ := c2 M') (by omega), e2, e3, hl]
    · rw [List.getElem?_take_eq_none (by omega), List.getElem?_eq_none (by rw [c2_len, List.length_append, List.length_append]; omega)]
  · unfold sortWorldK putRowK
    rw [heap_grow_old _ _ (by simpa using hk)]
    have : g ≠ k := fun e => hne (by rw [e])
    simp [putRow, mapBlock, Sort.ahead, Array.getElem?_modify, this]
end
end Go.Proofs.YtenfdnnagijfnaaGreatDoor
