/-
  norm: slices.SortStableFunc at []classed: what is asked of it; up to nineteen; a row of the call's own behind it.
-/
import Derived.Test.YtncnagagigalhaaGreatDoorNormM
namespace Go.Proofs.YtncnagagigalhaaGreatDoor
open Go.RowKit Norm Go.Shelf Go.Sort Go.Lib

def Sorted1 (blk off : Nat) (d : Array C) (w : World) (e : Ending) (w' : World) : Prop := e = .returned (.tuple #[]) ∧ ∃ n os, w' = sortWorldK encC 2 w blk off n (isort d.toList).toArray os
def StableCmpOk (N : Nat) : Prop := ∀ (blk off cap : Nat) (d : Array C) (w : World), HoldsK encC 2 w blk off d → blk < w.heap.size → d.size ≤ N →
  Calls Tryz.prog 69 #[.slice (some ⟨blk, off, none⟩) d.size cap, .int .i64 d.size, .func (.func 58) #[] #[]] w (Sorted1 blk off d w)
def StableOk (N : Nat) : Prop := ∀ (blk off cap : Nat) (d : Array C) (w : World), HoldsK encC 2 w blk off d → blk < w.heap.size → d.size ≤ N →
  Calls Tryz.prog 57 #[.slice (some ⟨blk, off, none⟩) d.size cap, .func (.func 58) #[] #[]] w (Sorted1 blk off d w)

theorem stable_of_cmp {N : Nat} (h : StableCmpOk N) : StableOk N := by
  intro blk off cap d w hH hb hd
  have HC := Lib.hid (h blk off cap d w hH hb hd)
  clear hH h
  go_enter Tryz.func57, Tryz.ntmps57
  go_wp2_with (first | (go_at_call 69; refine HC.out.mono ?_; rintro e w' ⟨rfl, hS⟩) | fail)
  go_end0
  exact ⟨rfl, hS⟩

theorem stableCmp19 : StableCmpOk 19 := by
  intro blk off cap d w hH hb hd
  have HC : Hid (Calls Tryz.prog 86 #[.slice (some ⟨blk, off, none⟩) d.size cap, .int .i64 0, .int .i64 d.size, .func (.func 58) #[] #[]] w (Sorted1 blk off d w)) := Lib.hid ((ins_any blk off cap 0 d.size d w hH hb (Nat.zero_le _) (Nat.le_refl _) (by omega)).mono fun _ _ ⟨h1, n, os, h2⟩ => ⟨h1, n, os, by rw [h2, insertion_isort]⟩)
  have h20 : ¬ (20 : Int) ≤ (d.size : Int) := by omega
  have h20b : ¬ (20 : Int) < (d.size : Int) := by omega
  clear hH
  go_enter Tryz.func69, Tryz.ntmps69
  go_wp2
  go_loop [7, 8] (fun a b => a = .int .i64 0 ∧ b = .int .i64 20) (fun _ _ => 0)
  case atStart => exact ⟨rfl, rfl⟩
  case round =>
    obtain ⟨rfl, rfl⟩ := hrel
    go_wp2_with (first | (go_at_call 86; refine HC.out.mono ?_; rintro e w' ⟨rfl, hS⟩) | fail)
    refine wp_loop_rounds 1 ?_
    rw [rounds_succ]
    go_wp2_with fail
    go_end0
    exact ⟨rfl, hS⟩
theorem stable19 : StableOk 19 := stable_of_cmp stableCmp19
end Go.Proofs.YtncnagagigalhaaGreatDoor
