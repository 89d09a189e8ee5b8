import Derived.Test.YtenfdnnagijfnaaGreatDoorNormE
import Derived.Test.YtenfdnnagijfnaaGreatDoorAppendRow
import Derived.Test.YtenfdnnagijfnaaGreatDoorAppendStep
import Derived.Deep.RegionHeld3
/-
  norm: addFull of a code point that stays as it is.
-/
namespace Go.Proofs.YtenfdnnagijfnaaGreatDoor
open Go.RowKit Norm

theorem info_int32 : (Tryz.prog.info? 21).map (fun i => (i.zero, i.size, i.bytes)) = some (some (.int .i32 0), 1, 4) := by kernel_rfl
theorem info_split {i : TypeId} {z : Value} {a b : Nat} (h : (Tryz.prog.info? i).map (fun i => (i.zero, i.size, i.bytes)) = some (some z, a, b)) : ∃ x, Tryz.prog.info? i = some x ∧ x.zero = some z ∧ x.size = a ∧ x.bytes = b := by
  cases hx : Tryz.prog.info? i with
  | none => rw [hx] at h; cases h
  | some x => rw [hx] at h; simp only [Option.map_some, Option.some.injEq, Prod.mk.injEq] at h; exact ⟨x, rfl, h.1, h.2.1, h.2.2⟩
theorem row_box (w : World) (cs : Array Value) (t : TypeId) (news : List Value) (h : cs.toList = news) : Row (w.alloc (.cells cs t)) (w.alloc (.cells cs t)).heap.size (some ⟨w.heap.size, 0, none⟩) news := by
  have := row_new w cs t news h
  rwa [World.size_alloc]

theorem row_box2 (w : World) (o : Obj) (cs : Array Value) (t : TypeId) (news : List Value) (h : cs.toList = news) : Row ((w.alloc o).alloc (.cells cs t)) ((w.alloc o).alloc (.cells cs t)).heap.size (some ⟨w.heap.size + 1, 0, none⟩) news := by
  have := row_box (w.alloc o) cs t news h
  rwa [World.size_alloc w] at this

/-- xs was added to a row of the call's own -/
def Added (base n : Nat) (xs news : List Value) (w : World) (e : Ending) (w' : World) : Prop :=
  ∃ v, e = .returned v ∧ w'.ownsRow base 21 1 v (n + news.length) (xs ++ news) ∧ Below base w w'

set_option maxRecDepth 100000 in
set_option maxHeartbeats 2000000 in
theorem addLeaf_any (r : Int) (w : World) (h0 : -2147483648 ≤ r) (h1 : r ≤ 2147483647) (base n : Nat) (v : Value) (xs : List Value) (hn : n ≤ 1000000) (hbase : base ≤ w.heap.size)
    (hown : w.ownsRow base 21 1 v n xs) (hr1 : r ≠ 9001) (hr2 : r ≠ 9002) (hs : spl r = none) :
    Calls Tryz.prog 36 #[v, .int .i32 r] w (Added base n xs [.int .i32 r] w) := by
  obtain ⟨i0, hi, hzz0, hzz1, hzz2⟩ := info_split info_int32
  have H1 := Lib.hid (fun w => by have h := single_any r w; rw [if_neg hr1, if_neg hr2, decide_eq_false (fun h => h.elim hr1 hr2)] at h; exact h)
  have H2 := Lib.hid (fun w => by have h := split_any r w h0 h1; rw [hs] at h; exact h)
  unfold optV at H2
  clear hs hr1 hr2 h0 h1
  go_enter Tryz.func36, Tryz.ntmps36
  go_wp2_with (first | (go_at_call 57; refine (H1.out _).mono ?_; rintro e w1 ⟨rfl, rfl⟩) | (go_at_call 58; refine (H2.out _).mono ?_; rintro e w2 ⟨rfl, hb2⟩; have hown2 := (own_below hown hb2).alloc (.cells #[.int .i32 0, .int .i32 0] 52)) | (at_builtin; refine wpList_append_row _ rfl _ _ 22 rfl base 21 i0 (.int .i32 0) 1 4 Tryz.underlying22 hi hzz0 hzz1 hzz2 rfl (by decide) _ _ _ rfl (hown2.alloc _) _ _ _ _ [.int .i32 r] rfl rfl (row_box2 _ _ _ _ [.int .i32 r] rfl) (by simp [Value.oneCell']) (by unfold maxLen; omega) (by omega) (by have := hb2.size; simp; omega) ?_; intro v2 w3 hown3 hg3) | fail)
  go_ret
  exact ⟨v2, rfl, hown3, Below.grown (((hb2.mono hbase).alloc (Nat.le_trans hbase hb2.size) _).alloc (by rw [World.size_alloc]; have := hb2.size; omega) _) hg3 (by rw [World.size_alloc, World.size_alloc]; have := hb2.size; omega) (fun k hk => (hown.lt k hk).1)⟩
end Go.Proofs.YtenfdnnagijfnaaGreatDoor

/-
  norm: addFull onto nil; Split.
-/
namespace Go.Proofs.YtenfdnnagijfnaaGreatDoor
open Go.RowKit Norm

def fullN : Nat → Int → List Int
  | 0, r => [r]
  | k + 1, r => if r = 9001 then fullN k 12296 else if r = 9002 then fullN k 12297 else match spl r with
    | some p => fullN k p.1 ++ [p.2]
    | none => [r]
/-- the decomposition of r ends within k steps, in int32s -/
def ends : Nat → Int → Prop
  | 0, _ => False
  | k + 1, r => -2147483648 ≤ r ∧ r ≤ 2147483647 ∧ if r = 9001 then ends k 12296 else if r = 9002 then ends k 12297 else match spl r with
    | some p => ends k p.1
    | none => True
theorem fullN_len : ∀ k r, (fullN k r).length ≤ k + 1
  | 0, r => by simp [fullN]
  | k + 1, r => by
    unfold fullN
    split
    · have := fullN_len k 12296; omega
    · split
      · have := fullN_len k 12297; omega
      · split
        · rename_i p hp; have := fullN_len k p.1; simp; omega
        · simp
theorem below_start {w w1 : World} {e : TypeId} {n : Nat} {v : Value} {xs : List Value} (h : w1.ownsRow w1.heap.size e 1 v n xs) (hb : Below w.heap.size w w1) : w1.ownsRow w.heap.size e 1 v n xs := by
  refine ⟨h.1, ?_⟩
  rcases h.2 with h | ⟨g, cap, cur, h1, h2, h3⟩
  · exact .inl h
  · exact .inr ⟨g, cap, cur, h1, Nat.le_trans hb.size h2, h3⟩
theorem own_down {w : World} {base base' : Nat} {e : TypeId} {size n : Nat} {v : Value} {xs : List Value} (h : w.ownsRow base e size v n xs) (hb : base' ≤ base) : w.ownsRow base' e size v n xs := by
  refine ⟨h.1, ?_⟩
  rcases h.2 with h | ⟨g, cap, cur, h1, h2, h3⟩
  · exact .inl h
  · exact .inr ⟨g, cap, cur, h1, Nat.le_trans hb h2, h3⟩

theorem below_undrew {B : Nat} {w w' : World} (h : Below B w.drew w') : Below B w w' := ⟨h.os, h.tape, h.output, h.size, h.block⟩
theorem le_alloc (w : World) (o : Obj) : w.heap.size ≤ (w.alloc o).heap.size := by show w.heap.size ≤ (w.heap.push o).size; simp
theorem below_past {w w' : World} (o : Obj) (h : Below (w.alloc o).heap.size (w.alloc o) w') : Below w.heap.size w w' := ((Below.refl _ w).alloc (Nat.le_refl _) o).trans (h.mono (le_alloc w o))
/-- what the region keeps of its box -/
theorem box3 {w : World} {X : Nat} {a b : Value} (h : w.heap[X]? = some (.cells #[a, b] 52 (0, 0))) :
    w.cell? ⟨X, 0, none⟩ = some a ∧ w.cell? ⟨X, 1, none⟩ = some b ∧ w.heap[X]? = some (.cells #[a, b] 52 (0, 0)) := ⟨(box_parts h).1, (box_parts h).2.1, h⟩

set_option maxRecDepth 100000 in
set_option maxHeartbeats 4000000 in
theorem addNil_any : ∀ k, k ≤ 1000 → ∀ r, ends k r → ∀ w : World, Calls Tryz.prog 36 #[.slice none 0 0, .int .i32 r] w (Added w.heap.size 0 [] (cl .i32 (fullN k r)) w)
  | 0, _, r, h, w => h.elim
  | k + 1, hk, r, hE, w => by
    have ih := fun r h w => addNil_any k (by omega) r h w
    unfold ends at hE
    obtain ⟨h0, h1, hE⟩ := hE
    unfold fullN
    by_cases hr1 : r = 9001
    · subst hr1
      rw [if_pos rfl] at hE ⊢
      have HC := Lib.hid (fun w => ih 12296 hE w)
      have H1 := Lib.hid (fun w => single_any 9001 w)
      generalize fullN k 12296 = F at HC ⊢
      clear ih hE
      go_enter Tryz.func36, Tryz.ntmps36
      go_wp2_with (first | (go_at_call 57; refine (H1.out _).mono ?_; rintro e w1 ⟨rfl, rfl⟩) | (go_at_call 36; refine (HC.out _).mono ?_; rintro e w2 ⟨v2, rfl, ho2, hb2⟩) | fail)
      go_ret
      exact ⟨v2, rfl, ho2, hb2⟩
    · by_cases hr2 : r = 9002
      · subst hr2
        rw [if_neg (by omega), if_pos rfl] at hE ⊢
        have HC := Lib.hid (fun w => ih 12297 hE w)
        have H1 := Lib.hid (fun w => single_any 9002 w)
        generalize fullN k 12297 = F at HC ⊢
        clear ih hE
        go_enter Tryz.func36, Tryz.ntmps36
        go_wp2_with (first | (go_at_call 57; refine (H1.out _).mono ?_; rintro e w1 ⟨rfl, rfl⟩) | (go_at_call 36; refine (HC.out _).mono ?_; rintro e w2 ⟨v2, rfl, ho2, hb2⟩) | fail)
        go_ret
        exact ⟨v2, rfl, ho2, hb2⟩
      · rw [if_neg hr1, if_neg hr2] at hE ⊢
        cases hs : spl r with
        | none => exact addLeaf_any r w h0 h1 w.heap.size 0 _ [] (by omega) (Nat.le_refl _) (World.ownsRow_nil w w.heap.size 21 1) hr1 hr2 hs
        | some p =>
          rw [hs] at hE
          obtain ⟨i0, hi, hzz0, hzz1, hzz2⟩ := info_split info_int32
          have H1 := Lib.hid (fun w => by have h := single_any r w; rw [if_neg hr1, if_neg hr2, decide_eq_false (fun h => h.elim hr1 hr2)] at h; exact h)
          have H2 := Lib.hid (fun w => by have h := split_any r w h0 h1; rw [hs] at h; exact h)
          have HC := Lib.hid (fun w => ih p.1 hE w)
          have hFl : (fullN k p.1).length ≤ 2000 := by have := fullN_len k p.1; omega
          unfold optV at H2
          show Calls _ _ _ _ (Added _ _ _ (cl .i32 (fullN k p.1 ++ [p.2])) _)
          have HRL : Hid ((cl .i32 (fullN k p.1 ++ [p.2])).length = (cl .i32 (fullN k p.1)).length + 1) := Lib.hid (by simp [cl])
          have HFF : Hid (cl .i32 (fullN k p.1 ++ [p.2]) = [] ++ cl .i32 (fullN k p.1) ++ [.int .i32 p.2]) := Lib.hid (by simp [cl])
          obtain ⟨R, hR⟩ : ∃ R, cl .i32 (fullN k p.1 ++ [p.2]) = R := ⟨_, rfl⟩
          rw [hR] at HFF HRL ⊢
          clear hR
          generalize fullN k p.1 = F at HC HFF HRL hFl
          obtain ⟨x, y⟩ := p
          dsimp only at H2 HC HFF HRL
          clear ih hE hs hr1 hr2 h0 h1
          go_enter Tryz.func36, Tryz.ntmps36
          go_upto_region 6 with (first | (go_at_call 57; refine (H1.out _).mono ?_; rintro e w1 ⟨rfl, rfl⟩) | (go_at_call 58; refine (H2.out _).mono ?_; rintro e w2 ⟨rfl, hb2⟩) | fail)
          have hg4 := alloc_heap_new' w2 (.cells #[.int .i32 x, .int .i32 y] 52)
          have hw4 : Below w.heap.size w (w2.alloc (.cells #[.int .i32 x, .int .i32 y] 52)) := hb2.alloc hb2.size _
          generalize w2.alloc (.cells #[.int .i32 x, .int .i32 y] 52) = W at hg4 hw4 ⊢
          generalize w2.heap.size = X at hg4 ⊢
          obtain ⟨c0, c1, hg5⟩ := box3 hg4
          clear hb2 H1 H2
          go_region_held3 (fun w' => w'.cell? ⟨X, 0, none⟩ = some (.int .i32 x) ∧ w'.cell? ⟨X, 1, none⟩ = some (.int .i32 y) ∧ w'.heap[X]? = some (.cells #[.int .i32 x, .int .i32 y] 52 (0, 0))) (first | exact box3 hg4 | exact box3 (alloc_old _ hg4) | exact box3 (below_old hg4 hbW) | exact box3 (alloc_old _ (below_old hg4 hbW)) | exact box3 (below_old hg4 hb3)) (first
            | (go_at_call 36; refine (HC.out _).mono ?_; rintro e wA ⟨vA, rfl, hoA', hbA⟩; have hbW : Below W.heap.size W wA := below_undrew hbA; have hoA : wA.ownsRow W.heap.size 21 1 vA (0 + (cl .i32 F).length) ([] ++ cl .i32 F) := hoA'; clear hoA' hbA)
            | (go_at_call 36; refine (HC.out _).mono ?_; rintro e wA ⟨vA, rfl, hoA', hbA⟩; have hbB : Below (W.alloc (.cells #[.int .i32 y] 21)).heap.size (W.alloc (.cells #[.int .i32 y] 21)) wA := (by first | exact hbA | exact below_undrew hbA); have hbW := below_past (.cells #[.int .i32 y] 21) hbB; have hoA : wA.ownsRow W.heap.size 21 1 vA (0 + (cl .i32 F).length) ([] ++ cl .i32 F) := own_down hoA' (le_alloc W _); clear hoA' hbA)
            | (refine step_append_row _ ?_ (.tmp 27) (.tmp 30) 22 ?_ W.heap.size 21 i0 (.int .i32 0) 1 4 Tryz.underlying22 hi hzz0 hzz1 hzz2 rfl (Nat.zero_lt_succ 0) vA (0 + (cl .i32 F).length) ([] ++ cl .i32 F) ?_ ?_ (wA.alloc (.cells #[.int .i32 y] 21)).heap.size (some ⟨wA.heap.size, 0, none⟩) 1 1 [.int .i32 y] ?_ ?_ ?_ (by simp [Value.oneCell']) ?_ ?_ ?_ ?_; (rfl); (rfl); (rfl); (exact hoA.alloc _); (rfl); (rfl); (exact row_box wA _ _ _ rfl); (simp; unfold maxLen; omega); (simp; omega); (exact (hbW.alloc hbW.size _).size); intro v3 w3 ho3 hg3; have hb3 : Below W.heap.size W w3 := (hbW.alloc hbW.size _).grown hg3 (hbW.alloc hbW.size _).size (fun j e => (hoA.lt j e).1))
            | (refine step_append_row _ ?_ (.tmp 27) (.tmp 30) 22 ?_ W.heap.size 21 i0 (.int .i32 0) 1 4 Tryz.underlying22 hi hzz0 hzz1 hzz2 rfl (Nat.zero_lt_succ 0) vA (0 + (cl .i32 F).length) ([] ++ cl .i32 F) ?_ ?_ (W.alloc (.cells #[.int .i32 y] 21)).heap.size (some ⟨W.heap.size, 0, none⟩) 1 1 [.int .i32 y] ?_ ?_ ?_ (by simp [Value.oneCell']) ?_ ?_ ?_ ?_; (rfl); (rfl); (rfl); (exact hoA); (rfl); (rfl); (exact (row_box W _ _ _ rfl).below hbB); (simp; unfold maxLen; omega); (simp; omega); (exact hbW.size); intro v3 w3 ho3 hg3; have hb3 : Below W.heap.size W w3 := hbW.grown hg3 hbW.size (fun j e => (hoA.lt j e).1))
            | fail)
          all_goals (
            go_wp2_with fail
            go_ret
            have ho := own_down ho3 hw4.size
            refine ⟨v3, rfl, ?_, hw4.trans (hb3.mono hw4.size)⟩
            rw [HRL.out, HFF.out, ← Nat.add_assoc]
            exact ho)
end Go.Proofs.YtenfdnnagijfnaaGreatDoor
