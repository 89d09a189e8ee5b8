/-
  norm: addFull of a code point that stays as it is.
-/
import Derived.Test.YtncnagagigalhaaGreatDoorNormE
import Derived.Test.YtncnagagigalhaaGreatDoorAppendRow
namespace Go.Proofs.YtncnagagigalhaaGreatDoor
open Go.RowKit Norm

theorem info_int32 : (Tryz.prog.info? 21).map (fun i => (i.zero, i.size, i.bytes)) = some (some (.int .i32 0), 1, 4) := by kernel_rfl
theorem info_split {i : TypeId} {z : Value} {a b : Nat} (h : (Tryz.prog.info? i).map (fun i => (i.zero, i.size, i.bytes)) = some (some z, a, b)) : ∃ x, Tryz.prog.info? i = some x ∧ x.zero = some z ∧ x.size = a ∧ x.bytes = b := by
  cases hx : Tryz.prog.info? i with
  | none => rw [hx] at h; cases h
  | some x => rw [hx] at h; simp only [Option.map_some, Option.some.injEq, Prod.mk.injEq] at h; exact ⟨x, rfl, h.1, h.2.1, h.2.2⟩
theorem row_box (w : World) (cs : Array Value) (t : TypeId) (news : List Value) (h : cs.toList = news) : Row (w.alloc (.cells cs t)) (w.alloc (.cells cs t)).heap.size (some ⟨w.heap.size, 0, none⟩) news := by
  have := row_new w cs t news h
  rwa [World.size_alloc]

theorem row_box2 (w : World) (o : Obj) (cs : Array Value) (t : TypeId) (news : List Value) (h : cs.toList = news) : Row ((w.alloc o).alloc (.cells cs t)) ((w.alloc o).alloc (.cells cs t)).heap.size (some ⟨w.heap.size + 1, 0, none⟩) news := by
  have := row_box (w.alloc o) cs t news h
  rwa [World.size_alloc w] at this

/-- xs was added to a row of the call's own -/
def Added (base n : Nat) (xs news : List Value) (w : World) (e : Ending) (w' : World) : Prop :=
  ∃ v, e = .returned v ∧ w'.ownsRow base 21 1 v (n + news.length) (xs ++ news) ∧ Below base w w'

set_option maxRecDepth 100000 in
set_option maxHeartbeats 2000000 in
theorem addLeaf_any (r : Int) (w : World) (h0 : -2147483648 ≤ r) (h1 : r ≤ 2147483647) (base n : Nat) (v : Value) (xs : List Value) (hn : n ≤ 1000000) (hbase : base ≤ w.heap.size)
    (hown : w.ownsRow base 21 1 v n xs) (hr1 : r ≠ 9001) (hr2 : r ≠ 9002) (hs : spl r = none) :
    Calls Tryz.prog 25 #[v, .int .i32 r] w (Added base n xs [.int .i32 r] w) := by
  obtain ⟨i0, hi, hzz0, hzz1, hzz2⟩ := info_split info_int32
  have H1 := Lib.hid (fun w => by have h := single_any r w; rw [if_neg hr1, if_neg hr2, decide_eq_false (fun h => h.elim hr1 hr2)] at h; exact h)
  have H2 := Lib.hid (fun w => by have h := split_any r w h0 h1; rw [hs] at h; exact h)
  unfold optV at H2
  clear hs hr1 hr2 h0 h1
  go_enter Tryz.func25, Tryz.ntmps25
  go_wp2_with (first | (go_at_call 40; refine (H1.out _).mono ?_; rintro e w1 ⟨rfl, rfl⟩) | (go_at_call 41; refine (H2.out _).mono ?_; rintro e w2 ⟨rfl, hb2⟩; have hown2 := (own_below hown hb2).alloc (.cells #[.int .i32 0, .int .i32 0] 45)) | (at_builtin; refine wpList_append_row _ rfl _ _ 22 rfl base 21 i0 (.int .i32 0) 1 4 Tryz.underlying22 hi hzz0 hzz1 hzz2 rfl (by decide) _ _ _ rfl (hown2.alloc _) _ _ _ _ [.int .i32 r] rfl rfl (row_box2 _ _ _ _ [.int .i32 r] rfl) (by simp [Value.oneCell']) (by unfold maxLen; omega) (by omega) (by have := hb2.size; simp; omega) ?_; intro v2 w3 hown3 hg3) | fail)
  go_ret
  exact ⟨v2, rfl, hown3, Below.grown (((hb2.mono hbase).alloc (Nat.le_trans hbase hb2.size) _).alloc (by rw [World.size_alloc]; have := hb2.size; omega) _) hg3 (by rw [World.size_alloc, World.size_alloc]; have := hb2.size; omega) (fun k hk => (hown.lt k hk).1)⟩
end Go.Proofs.YtncnagagigalhaaGreatDoor
