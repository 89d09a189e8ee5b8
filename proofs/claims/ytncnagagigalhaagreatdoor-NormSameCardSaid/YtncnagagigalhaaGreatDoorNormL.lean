/-
  norm: the library's own functions at []classed, laid; the closure and the method that they are handed.
-/
import Derived.Test.YtncnagagigalhaaGreatDoorNormK
import Derived.Shelf.SlSortCmp.KitK
import Derived.Shelf.SlicesQ.IndexFunc
namespace Go.Proofs.YtncnagagigalhaaGreatDoor
open Go.RowKit Norm Go.Shelf Go.Sort Go.Lib

def renC : Ren := ⟨fun | 20 => 86 | n => n, fun | 22 => 50 | 24 => 53 | 25 => 81 | 0 => 0 | 3 => 3 | 4 => 4 | n => n, fun n => n⟩
theorem insLaid : SlLaysF0.n20 Tryz.prog renC := {
  mixed := by kernel_rfl
  f20 := ⟨Tryz.f86.name, by decide +kernel, by kernel_rfl⟩
  t0 := Tryz.underlying0
  a0 := Tryz.isAgg0
  z0 := Tryz.sizeOf0
  v0 := Tryz.zeroValue0
  t3 := Tryz.underlying3
  a3 := Tryz.isAgg3
  z3 := Tryz.sizeOf3
  v3 := Tryz.zeroValue3
  t4 := Tryz.underlying4
  a4 := Tryz.isAgg4
  z4 := Tryz.sizeOf4
  v4 := Tryz.zeroValue4
  t22 := Tryz.underlying50
  a22 := Tryz.isAgg50
  z22 := Tryz.sizeOf50
  v22 := Tryz.zeroValue50
  t25 := Tryz.underlying81
  a25 := Tryz.isAgg81
  z25 := Tryz.sizeOf81
  v25 := Tryz.zeroValue81 }
def renH : Ren := ⟨fun | 6 => 56 | n => n, fun | 22 => 50 | 23 => 53 | 25 => 78 | 0 => 0 | 3 => 3 | 4 => 4 | n => n, fun n => n⟩
theorem idxLaid : SlLaysH0.n6 Tryz.prog renH := {
  mixed := by kernel_rfl
  f6 := ⟨Tryz.f56.name, by decide +kernel, by kernel_rfl⟩
  t0 := Tryz.underlying0
  a0 := Tryz.isAgg0
  z0 := Tryz.sizeOf0
  v0 := Tryz.zeroValue0
  t3 := Tryz.underlying3
  a3 := Tryz.isAgg3
  z3 := Tryz.sizeOf3
  v3 := Tryz.zeroValue3
  t4 := Tryz.underlying4
  a4 := Tryz.isAgg4
  z4 := Tryz.sizeOf4
  v4 := Tryz.zeroValue4
  t22 := Tryz.underlying50
  a22 := Tryz.isAgg50
  z22 := Tryz.sizeOf50
  v22 := Tryz.zeroValue50
  t25 := Tryz.underlying78
  a25 := Tryz.isAgg78
  z25 := Tryz.sizeOf78
  v25 := Tryz.zeroValue78 }

/-! cmp.Compare at bytes; the closure; the method -/
def encC (x : C) : List Value := [.int .i32 x.1, .int .u8 x.2]
theorem encC_len (x : C) : (encC x).length = 2 := rfl
theorem encC_one (x : C) : ∀ v ∈ encC x, v.oneCell' = true := by
  intro v hv
  simp [encC] at hv
  rcases hv with rfl | rfl <;> rfl
theorem cmp8_any (x y : Int) (w : World) : Calls Tryz.prog 59 #[.int .u8 x, .int .u8 y] w (Gives (.int .i64 (cmpZ x y)) w) := by
  by_cases h1 : x < y
  · have HC : Hid (cmpZ x y = -1) := Lib.hid (by unfold cmpZ; rw [if_pos h1])
    go_enter Tryz.func59, Tryz.ntmps59
    go_wp2
    go_ret
    exact ⟨by rw [HC.out]; rfl, rfl⟩
  · by_cases h2 : y < x
    · have HC : Hid (cmpZ x y = 1) := Lib.hid (by unfold cmpZ; rw [if_neg h1, if_pos h2])
      go_enter Tryz.func59, Tryz.ntmps59
      go_wp2
      go_ret
      exact ⟨by rw [HC.out]; rfl, rfl⟩
    · have HC : Hid (cmpZ x y = 0) := Lib.hid (by unfold cmpZ; rw [if_neg h1, if_neg h2])
      go_enter Tryz.func59, Tryz.ntmps59
      go_wp2
      go_ret
      exact ⟨by rw [HC.out]; rfl, rfl⟩

def cfC (x y : C) : Int := cmpZ x.2 y.2
theorem closure_any (x y : C) (W : World) : Calls Tryz.prog 58 #[.agg #[.int .i32 x.1, .int .u8 x.2], .agg #[.int .i32 y.1, .int .u8 y.2]] W fun e w' => e = .returned (.int .i64 (cfC x y)) ∧ ∃ q os', w' = grow (W.drewN q) os' := by
  have HC := Lib.hid (fun w => cmp8_any x.2 y.2 w)
  unfold cfC
  generalize cmpZ x.2 y.2 = r at HC ⊢
  go_enter Tryz.func58, Tryz.ntmps58
  go_wp2_with (first | (go_at_call 59; refine (HC.out _).mono ?_; rintro e w' ⟨rfl, rfl⟩) | fail)
  go_ret
  exact ⟨rfl, 0, _, by rw [alloc_eq_grow, alloc_eq_grow, grow_grow]; rfl⟩
theorem cmpLays (blk off size : Nat) (w : World) : CmpLays Tryz.prog 58 #[] encC 2 cfC blk off size w := fun _ _ _ _ x y => closure_any x y _

def isSt (x : C) : Bool := x.2 == 0
theorem starter_any (w : World) : PredBelow Tryz.prog 44 #[] (fun x => .agg (encC x).toArray) isSt w := fun W x hb => by
  show Calls Tryz.prog 44 #[.agg #[.int .i32 x.1, .int .u8 x.2]] W _
  by_cases h0 : x.2 = 0
  · have HE : Hid (isSt x = true) := Lib.hid (by unfold isSt; rw [h0]; rfl)
    have hz : (x.2 == 0) = true := by rw [h0]; rfl
    go_enter Tryz.func44, Tryz.ntmps44
    go_wp2
    go_ret
    exact ⟨by rw [HE.out]; first | rfl | (simp [h0]), hb.alloc hb.size _⟩
  · have HE : Hid (isSt x = false) := Lib.hid (by unfold isSt; simp [h0])
    go_enter Tryz.func44, Tryz.ntmps44
    go_wp2
    go_ret
    exact ⟨by rw [HE.out]; first | rfl | (simp [h0]), hb.alloc hb.size _⟩

theorem eCl : ∀ args w, (callFunc 58 args).run Tryz.prog w = .ok (.enter 58 args) w := enters_of Tryz.func58 (by kernel_rfl) rfl
theorem eSt : ∀ args w, (callFunc 44 args).run Tryz.prog w = .ok (.enter 44 args) w := enters_of Tryz.func44 (by kernel_rfl) rfl

theorem ins_any (blk off cap a b : Nat) (d : Array C) (w : World) (hH : HoldsK encC 2 w blk off d) (hblk : blk < w.heap.size) (hab : a ≤ b) (hb : b ≤ d.size) (hsz : d.size ≤ 1000000) :
    Calls Tryz.prog 86 #[.slice (some ⟨blk, off, none⟩) d.size cap, .int .i64 a, .int .i64 b, .func (.func 58) #[] #[]] w fun e w' =>
      e = .returned (.tuple #[]) ∧ ∃ n os, w' = sortWorldK encC 2 w blk off n (Sort.insertionSort (ltOf cfC) d a b) os :=
  AnyQ.insertionSortCmpFunc insLaid 2 Tryz.isAgg53 Tryz.sizeOf53 encC encC_len encC_one cfC _ #[] blk off cap a b d w eCl (cmpLays blk off d.size w) hH hblk hab hb (by omega)

theorem idx_any (b off n c : Nat) (zs : List C) (w : World) (hz : n = zs.length) (hbig : n ≤ 1000000) (hb : b < w.heap.size)
    (hc : ∀ j, j < zs.length → ∀ i v, (encC zs[j]!)[i]? = some v → w.cell? ⟨b, off + j * 2 + i, none⟩ = some v) :
    Calls Tryz.prog 56 #[.slice (some ⟨b, off, none⟩) n c, .func (.func 44) #[] #[]] w fun e w' => e = .returned (.int .i64 (Lib.idxBy (fun _ y => isSt y) (zs.take n) default)) ∧ Below w.heap.size w w' :=
  AnyQ.slices_IndexFunc idxLaid 2 Tryz.isAgg53 Tryz.sizeOf53 encC encC_len isSt _ #[] eSt b off n c zs w (starter_any w) (by omega) (by omega) hb hc
end Go.Proofs.YtncnagagigalhaaGreatDoor
