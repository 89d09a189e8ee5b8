/-
  rule: begins, all.
-/
import Derived.Test.YtnmijmhgmcapcaaDoorRulB
namespace Go.Proofs.YtnmijmhgmcapcaaDoor.Rul
open Go.RowKit Ucd

/-- is the first one in a set? -/
def fstB (s : Int) : List Int → Bool
  | [] => false
  | r :: _ => hb s r
set_option maxRecDepth 100000 in
set_option maxHeartbeats 1000000 in
theorem begins_any (s : Int) (hs0 : 0 ≤ s) (hs1 : s < 4294967296) (l : List Int) (A : Option Addr) (n c : Nat) (w : World) (hn : l.length = n) (hr : Row w w.heap.size A (cl .i32 l)) : Calls Tryd.prog 20 #[.slice A n c, .func (.func 17) #[.int .u32 s] #[]] w (IsB (fstB s l) w) := by
  cases l with
  | nil =>
    obtain rfl : n = 0 := hn.symm
    show Calls _ _ _ _ (IsB false w)
    clear hn hr
    go_enter Tryd.func20, Tryd.ntmps20
    go_wp2_with fail
    go_ret
    exact ⟨rfl, Below.refl _ _⟩
  | cons r t =>
    show Calls _ _ _ _ (IsB (hb s r) w)
    have hn0 : 0 < n := by rw [← hn]; simp
    have hnz : (0 : Int) < (n : Int) := by omega
    obtain ⟨b, o, rfl, hb', hcc⟩ := hr.at_ (by simp)
    have c0 := row_cell hcc 0 (by simp)
    rw [show (r :: t)[0]! = r from rfl, Nat.add_zero] at c0
    have HC := Lib.hid (fun w => has_any s r hs0 hs1 w)
    generalize hb s r = q at HC ⊢
    clear hcc hn hr hs0 hs1
    go_enter Tryd.func20, Tryd.ntmps20
    go_wp2_with (first | (go_at_call 17; refine (HC.out _).mono ?_; rintro e w1 ⟨rfl, hB1⟩) | fail)
    go_ret
    exact ⟨rfl, hB1⟩
set_option maxRecDepth 100000 in
set_option maxHeartbeats 1000000 in
theorem all_any (s : Int) (hs0 : 0 ≤ s) (hs1 : s < 4294967296) (l : List Int) (A : Option Addr) (n c : Nat) (w : World) (hn : l.length = n) (hn1 : n ≤ 1000000) (hr : Row w w.heap.size A (cl .i32 l)) : Calls Tryd.prog 35 #[.slice A n c, .func (.func 17) #[.int .u32 s] #[]] w (IsB (l.all (hb s)) w) := by
  have HI := Lib.hid (Contains_not s hs0 hs1 w.heap.size l A n c _ (World.alloc_heap_new w (.cells #[.func (.func 17) #[.int .u32 s] #[]] 40)) hn hn1 (upR hr (upA w _)))
  have e : l.any (nb s) = !(l.all (hb s)) := any_not (hb s) l
  rw [e] at HI
  have hW := upA w (.cells #[.func (.func 17) #[.int .u32 s] #[]] 40)
  generalize l.all (hb s) = q at HI ⊢
  clear hn hr e
  go_enter Tryd.func35, Tryd.ntmps35
  go_wp2_with (first | (go_at_call 16; refine HI.out.mono ?_; rintro e w1 ⟨rfl, hB1⟩) | fail)
  go_ret
  exact ⟨by simp, upB hW hB1⟩
end Go.Proofs.YtnmijmhgmcapcaaDoor.Rul
