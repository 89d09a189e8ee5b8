/-
  fascialaw09.RulePut: the closure that puts a code point in, and asks Check.
-/
import Derived.Test.YtnmijmhgmcapcaaDoorRulI
import Derived.Test.YtnmijmhgmcapcaaDoorAppendStep
import Derived.Deep.RegionHeld3
namespace Go.Proofs.YtnmijmhgmcapcaaDoor.Rul
open Go.RowKit Ucd

theorem own_shape {w : World} {base : Nat} {e : TypeId} {size n : Nat} {v : Value} {xs : List Value} (h : w.ownsRow base e size v n xs) : ∃ A c, v = .slice A n c := by
  obtain ⟨A, c, h, _⟩ := own_form h
  exact ⟨A, c, h⟩
theorem row_lit (w : World) (cs : Array Value) (t : TypeId) (news : List Value) (h : cs.toList = news) : Row (w.alloc (.cells cs t)) (w.alloc (.cells cs t)).heap.size (some ⟨w.heap.size, 0, none⟩) news := by
  rw [World.size_alloc]
  exact row_new w cs t news h
theorem Row.go {w1 w2 : World} {A : Option Addr} {xs : List Value} (h : Row w1 w1.heap.size A xs) (hb : Below w1.heap.size w1 w2) : Row w2 w2.heap.size A xs := (h.below hb).mono hb.size
theorem box_alloc {w : World} {X : Nat} {v : Value} (o : Obj) (hX : w.cell? ⟨X, 0, none⟩ = some v) (hl : X < w.heap.size) : (w.alloc o).cell? ⟨X, 0, none⟩ = some v := by
  rw [(upA w o).cell (p := ⟨X, 0, none⟩) hl]; exact hX
theorem box_up {w w' : World} {X : Nat} {v : Value} (hX : w.cell? ⟨X, 0, none⟩ = some v) (hl : X < w.heap.size) (hB : Below w.heap.size w w') : w'.cell? ⟨X, 0, none⟩ = some v := by
  rw [hB.cell (p := ⟨X, 0, none⟩) hl]; exact hX
theorem row_far {W w' : World} {b Y : Nat} {xs : List Value} (hg : W.grownBy w' (some b)) (h : Row W W.heap.size (some ⟨Y, 0, none⟩) xs) (hne : Y ≠ b) : Row w' w'.heap.size (some ⟨Y, 0, none⟩) xs := by
  rcases h with h | ⟨b', o', hA, hb, hc⟩
  · exact .inl h
  · injection hA with hA
    injection hA with h1 h2
    subst h1
    subst h2
    refine .inr ⟨Y, 0, rfl, Nat.lt_of_lt_of_le hb hg.size, fun k hk => ?_⟩
    rw [World.cell?_of_block (w := W) (hg.block Y hb (by simpa using hne))]
    exact hc k hk
theorem own_drew {W : World} {b : Nat} {e : TypeId} {s n : Nat} {v : Value} {xs : List Value} (h : W.ownsRow b e s v n xs) : W.drew.ownsRow b e s v n xs := h
section
variable {ops : Array Oper} {o : Oper} {a : Act} {K : Act → World → Prop} {Q : Exit → Act → World → Prop} {E : Prop}
/-- an append of a region that draws its order, onto a row of the call's own -/
theorem step_app (w0 W : World) (hgd : o.guard = none) (s x : Operand) (ho : o.op = .call { callee := .builtin .append, args := #[s, x], argTypes := #[22, 22] })
    (v : Value) (n : Nat) (xs : List Value) (hs : a.eval s = v) (hown : W.ownsRow w0.heap.size 21 1 v n xs) (hB : Below w0.heap.size w0 W)
    (A : Option Addr) (m c : Nat) (news : List Int) (hx : a.eval x = .slice A m c) (hl : news.length = m) (hr : Row W W.heap.size A (cl .i32 news)) (q : Nat) (hq : n + m = q) (hnm : q ≤ 100000)
    (h : ∀ A' c' w', w'.ownsRow w0.heap.size 21 1 (.slice A' q c') q (xs ++ cl .i32 news) → W.grownBy w' v.ownBlock → Below w0.heap.size w0 w' → K (a.put o.dst (.slice A' q c')) w') :
    if Region.wanted o (yielded ops a.tmps) = true then Oper.wp Tryd.prog o a W K Q else E := by
  subst hq
  obtain ⟨i0, hi, hz0, hz1, hz2⟩ := info_split info_int32
  refine step_append_row W hgd s x 22 ho w0.heap.size 21 i0 (.int .i32 0) 1 4 Tryd.underlying22 hi hz0 hz1 hz2 rfl (Nat.zero_lt_succ 0) v n xs hs hown W.heap.size A m c (cl .i32 news) hx (by simp [hl]) hr (one_cl _ _) (by unfold maxLen; omega) (by omega) hB.size ?_
  intro v' w' hO hg
  obtain ⟨A', c', rfl⟩ := own_shape hO
  exact h A' c' w' hO hg (hB.grown hg hB.size (fun j e => (hown.lt j e).1))
end
set_option maxRecDepth 100000 in
set_option maxHeartbeats 2000000 in
theorem puts_any (l : List Int) (A : Option Addr) (n cap X : Nat) (r : Int) (k : Nat) (w : World) (hn : l.length = n) (hl : n ≤ 200) (hk : k ≤ n) (hcap : n ≤ cap) (hck : ¬ cap = k) (hX : w.cell? ⟨X, 0, none⟩ = some (.slice A n cap)) (hXl : X < w.heap.size) (hr : Row w w.heap.size A (cl .i32 l)) :
    Calls Tryd.prog 15 #[.int .i32 r, .int .i64 (k : Int), .pointer (some ⟨X, 0, none⟩)] w (Tells (.int .u8 (chk (l.take k ++ r :: l.drop k))) w) := by
  have hkc : k ≤ cap := by omega
  have hkz : (0 : Int) ≤ (k : Int) := by omega
  have hck2 : (cap == k) = false := by simpa using hck
  have HTL : Hid ((l.take k).length = k) := Lib.hid (by rw [List.length_take]; omega)
  have HDL : Hid ((l.drop k).length = n - k) := Lib.hid (by rw [List.length_drop, hn])
  have TA : Hid (∀ W, Below w.heap.size w W → Row W W.heap.size A (cl .i32 (l.take k))) := Lib.hid fun W hB => Row.go (row_take hr k) hB
  have TB : Hid (∀ W, Below w.heap.size w W → Row W W.heap.size (Option.map (fun x => x.add k) A) (cl .i32 (l.drop k))) := Lib.hid fun W hB => Row.go (row_drop hr hn hk hck) hB
  have HF : Hid (∀ (A3 : Option Addr) (c3 : Nat) (w3 : World), w3.ownsRow w.heap.size 21 1 (.slice A3 (n + 1) c3) (n + 1) ([] ++ cl .i32 (l.take k) ++ cl .i32 [r] ++ cl .i32 (l.drop k)) → Calls Tryd.prog 10 #[.slice A3 (n + 1) c3] w3 (Tells (.int .u8 (chk (l.take k ++ r :: l.drop k))) w3)) := Lib.hid fun A3 c3 w3 hO => by
    have e1 : (l.take k ++ r :: l.drop k).length = n + 1 := by rw [List.length_append, List.length_cons, HTL.out, HDL.out]; omega
    have e2 : cl .i32 (l.take k ++ r :: l.drop k) = [] ++ cl .i32 (l.take k) ++ cl .i32 [r] ++ cl .i32 (l.drop k) := by simp [cl]
    rw [← e2] at hO
    exact Check_any _ A3 (n + 1) c3 w3 e1 (by omega) (own_row hO)
  generalize chk (l.take k ++ r :: l.drop k) = y at HF ⊢
  have HRB : Hid (Row ((w.alloc (.cells #[] 21)).alloc (.cells #[.int .i32 r] 21)).drew ((w.alloc (.cells #[] 21)).alloc (.cells #[.int .i32 r] 21)).drew.heap.size (some ⟨w.heap.size + 1, 0, none⟩) (cl .i32 [r])) := Lib.hid (by
    have h := row_lit (w.alloc (.cells #[] 21)) #[.int .i32 r] 21 [.int .i32 r] rfl
    have e : (w.alloc (.cells #[] 21)).heap.size = w.heap.size + 1 := World.size_alloc _ _
    rw [e] at h
    exact h)
  have HRC : Hid (Row ((w.alloc (.cells #[.int .i32 r] 21)).alloc (.cells #[] 21)).drew ((w.alloc (.cells #[.int .i32 r] 21)).alloc (.cells #[] 21)).drew.heap.size (some ⟨w.heap.size, 0, none⟩) (cl .i32 [r])) := Lib.hid (Row.go (row_lit w #[.int .i32 r] 21 [.int .i32 r] rfl) (upA _ _).drew)
  have HOC : Hid (((w.alloc (.cells #[.int .i32 r] 21)).alloc (.cells #[] 21)).drew.ownsRow w.heap.size 21 1 (.slice (some ⟨w.heap.size + 1, 0, none⟩) 0 0) 0 []) := Lib.hid (by
    have h := own_drew (own_none (w.alloc (.cells #[.int .i32 r] 21)) w.heap.size 21 (by simp))
    have e : (w.alloc (.cells #[.int .i32 r] 21)).heap.size = w.heap.size + 1 := World.size_alloc _ _
    rw [e] at h
    exact h)
  clear hn hr
  go_enter Tryd.func15, Tryd.ntmps15
  go_upto_region 1 with fail
  go_region_held3 (fun w' => w'.cell? ⟨X, 0, none⟩ = some (.slice A n cap)) (first | exact hX | exact box_alloc _ hX hXl | exact box_alloc _ (box_alloc _ hX hXl) (by simp; omega) | exact box_up hX hXl hb2 | exact box_up hX hXl (hb2.alloc hb2.size _) | exact box_up hX hXl hb3 | exact box_up hX hXl hb4 | exact box_up hX hXl hb5) (first
    | (refine step_app w _ rfl (.tmp 6) (.tmp 9) rfl _ 0 [] rfl ?_ ?_ A k cap (l.take k) rfl HTL.out ?_ k (by omega) (by omega) ?_;
        (first | exact own_drew (own_none w w.heap.size 21 (Nat.le_refl _)) | exact own_drew ((own_none w w.heap.size 21 (Nat.le_refl _)).alloc (.cells #[.int .i32 r] 21)) | exact HOC.out);
        (first | exact (upA w _).drew | exact ((upA w _).alloc (by simp) _).drew | exact (upA w _).drew.alloc (by simp) _);
        (first | exact TA.out _ (upA w _).drew | exact TA.out _ ((upA w _).alloc (by simp) _).drew | exact TA.out _ ((upA w _).drew.alloc (by simp) _)); intro A2 c2 w2 hown2 hg2 hb2)
    | (refine step_app w _ rfl (.tmp 10) (.tmp 12) rfl _ k ([] ++ cl .i32 (l.take k)) rfl ?_ ?_ _ 1 1 [r] rfl rfl ?_ (k + 1) rfl (by omega) ?_;
        (first | exact hown2 | exact hown2.alloc _); (first | exact hb2 | exact hb2.alloc hb2.size _);
        (first | exact row_lit _ _ _ _ rfl | exact row_far (b := w.heap.size) hg2 HRB.out (by omega) | exact row_far (b := w.heap.size + 1) hg2 HRC.out (by omega)); intro A3 c3 w3 hown3 hg3 hb3)
    | (refine step_app w _ rfl (.tmp 13) (.tmp 16) rfl _ (k + 1) ([] ++ cl .i32 (l.take k) ++ cl .i32 [r]) rfl ?_ ?_ (Option.map (fun x => x.add k) A) (n - k) (cap - k) (l.drop k) rfl HDL.out ?_ (n + 1) (by omega) (by omega) ?_;
        (exact hown3); (exact hb3); (exact TB.out _ hb3); intro A4 c4 w4 hown4 hg4 hb4)
    | (go_at_call 10; refine (HF.out _ _ _ hown4).mono ?_; rintro e w5 ⟨rfl, hb5'⟩; have hb5 := upB hb4 hb5')
    | fail)
  all_goals (
    go_wp2_with fail
    go_ret
    exact ⟨rfl, hb5⟩)
set_option maxRecDepth 100000 in
set_option maxHeartbeats 2000000 in
theorem puts_end (l : List Int) (A : Option Addr) (X : Nat) (r : Int) (k : Nat) (w : World) (hn : l.length = k) (hl : k ≤ 200) (hX : w.cell? ⟨X, 0, none⟩ = some (.slice A k k)) (hXl : X < w.heap.size) (hr : Row w w.heap.size A (cl .i32 l)) :
    Calls Tryd.prog 15 #[.int .i32 r, .int .i64 (k : Int), .pointer (some ⟨X, 0, none⟩)] w (Tells (.int .u8 (chk (l.take k ++ r :: l.drop k))) w) := by
  have hkz : (0 : Int) ≤ (k : Int) := by omega
  have hck2 : (k == k) = true := by simp
  have HTL : Hid ((l.take k).length = k) := Lib.hid (by rw [List.length_take]; omega)
  have HDL : Hid ((l.drop k).length = 0) := Lib.hid (by simp [hn])
  have TA : Hid (∀ W, Below w.heap.size w W → Row W W.heap.size A (cl .i32 (l.take k))) := Lib.hid fun W hB => Row.go (row_take hr k) hB
  have TB : Hid (∀ W, Below w.heap.size w W → Row W W.heap.size A (cl .i32 (l.drop k))) := Lib.hid fun W hB => by
    rw [List.eq_nil_of_length_eq_zero HDL.out]
    exact .inl rfl
  have HF : Hid (∀ (A3 : Option Addr) (c3 : Nat) (w3 : World), w3.ownsRow w.heap.size 21 1 (.slice A3 (k + 1) c3) (k + 1) ([] ++ cl .i32 (l.take k) ++ cl .i32 [r] ++ cl .i32 (l.drop k)) → Calls Tryd.prog 10 #[.slice A3 (k + 1) c3] w3 (Tells (.int .u8 (chk (l.take k ++ r :: l.drop k))) w3)) := Lib.hid fun A3 c3 w3 hO => by
    have e1 : (l.take k ++ r :: l.drop k).length = k + 1 := by rw [List.length_append, List.length_cons, HTL.out, HDL.out]
    have e2 : cl .i32 (l.take k ++ r :: l.drop k) = [] ++ cl .i32 (l.take k) ++ cl .i32 [r] ++ cl .i32 (l.drop k) := by simp [cl]
    rw [← e2] at hO
    exact Check_any _ A3 (k + 1) c3 w3 e1 (by omega) (own_row hO)
  generalize chk (l.take k ++ r :: l.drop k) = y at HF ⊢
  have HRB : Hid (Row ((w.alloc (.cells #[] 21)).alloc (.cells #[.int .i32 r] 21)).drew ((w.alloc (.cells #[] 21)).alloc (.cells #[.int .i32 r] 21)).drew.heap.size (some ⟨w.heap.size + 1, 0, none⟩) (cl .i32 [r])) := Lib.hid (by
    have h := row_lit (w.alloc (.cells #[] 21)) #[.int .i32 r] 21 [.int .i32 r] rfl
    have e : (w.alloc (.cells #[] 21)).heap.size = w.heap.size + 1 := World.size_alloc _ _
    rw [e] at h
    exact h)
  have HRC : Hid (Row ((w.alloc (.cells #[.int .i32 r] 21)).alloc (.cells #[] 21)).drew ((w.alloc (.cells #[.int .i32 r] 21)).alloc (.cells #[] 21)).drew.heap.size (some ⟨w.heap.size, 0, none⟩) (cl .i32 [r])) := Lib.hid (Row.go (row_lit w #[.int .i32 r] 21 [.int .i32 r] rfl) (upA _ _).drew)
  have HOC : Hid (((w.alloc (.cells #[.int .i32 r] 21)).alloc (.cells #[] 21)).drew.ownsRow w.heap.size 21 1 (.slice (some ⟨w.heap.size + 1, 0, none⟩) 0 0) 0 []) := Lib.hid (by
    have h := own_drew (own_none (w.alloc (.cells #[.int .i32 r] 21)) w.heap.size 21 (by simp))
    have e : (w.alloc (.cells #[.int .i32 r] 21)).heap.size = w.heap.size + 1 := World.size_alloc _ _
    rw [e] at h
    exact h)
  clear hn hr
  go_enter Tryd.func15, Tryd.ntmps15
  go_upto_region 1 with fail
  go_region_held3 (fun w' => w'.cell? ⟨X, 0, none⟩ = some (.slice A k k)) (first | exact hX | exact box_alloc _ hX hXl | exact box_alloc _ (box_alloc _ hX hXl) (by simp; omega) | exact box_up hX hXl hb2 | exact box_up hX hXl (hb2.alloc hb2.size _) | exact box_up hX hXl hb3 | exact box_up hX hXl hb4 | exact box_up hX hXl hb5) (first
    | (refine step_app w _ rfl (.tmp 6) (.tmp 9) rfl _ 0 [] rfl ?_ ?_ A k k (l.take k) rfl HTL.out ?_ k (by omega) (by omega) ?_;
        (first | exact own_drew (own_none w w.heap.size 21 (Nat.le_refl _)) | exact own_drew ((own_none w w.heap.size 21 (Nat.le_refl _)).alloc (.cells #[.int .i32 r] 21)) | exact HOC.out);
        (first | exact (upA w _).drew | exact ((upA w _).alloc (by simp) _).drew | exact (upA w _).drew.alloc (by simp) _);
        (first | exact TA.out _ (upA w _).drew | exact TA.out _ ((upA w _).alloc (by simp) _).drew | exact TA.out _ ((upA w _).drew.alloc (by simp) _)); intro A2 c2 w2 hown2 hg2 hb2)
    | (refine step_app w _ rfl (.tmp 10) (.tmp 12) rfl _ k ([] ++ cl .i32 (l.take k)) rfl ?_ ?_ _ 1 1 [r] rfl rfl ?_ (k + 1) rfl (by omega) ?_;
        (first | exact hown2 | exact hown2.alloc _); (first | exact hb2 | exact hb2.alloc hb2.size _);
        (first | exact row_lit _ _ _ _ rfl | exact row_far (b := w.heap.size) hg2 HRB.out (by omega) | exact row_far (b := w.heap.size + 1) hg2 HRC.out (by omega)); intro A3 c3 w3 hown3 hg3 hb3)
    | (refine step_app w _ rfl (.tmp 13) (.tmp 16) rfl _ (k + 1) ([] ++ cl .i32 (l.take k) ++ cl .i32 [r]) rfl ?_ ?_ A 0 0 (l.drop k) rfl HDL.out ?_ (k + 1) (by omega) (by omega) ?_;
        (exact hown3); (exact hb3); (exact TB.out _ hb3); intro A4 c4 w4 hown4 hg4 hb4)
    | (go_at_call 10; refine (HF.out _ _ _ hown4).mono ?_; rintro e w5 ⟨rfl, hb5'⟩; have hb5 := upB hb4 hb5')
    | fail)
  all_goals (
    go_wp2_with fail
    go_ret
    exact ⟨rfl, hb5⟩)
theorem puts (l : List Int) (A : Option Addr) (n cap X : Nat) (r : Int) (k : Nat) (y : Int) (w : World) (hn : l.length = n) (hl : n ≤ 200) (hk : k ≤ n) (hcap : n ≤ cap) (hX : w.cell? ⟨X, 0, none⟩ = some (.slice A n cap)) (hXl : X < w.heap.size) (hr : Row w w.heap.size A (cl .i32 l)) (hy : chk (l.take k ++ r :: l.drop k) = y) :
    Calls Tryd.prog 15 #[.int .i32 r, .int .i64 (k : Int), .pointer (some ⟨X, 0, none⟩)] w (Tells (.int .u8 y) w) := by
  rw [← hy]
  by_cases hck : cap = k
  · subst hck
    obtain rfl : n = cap := by omega
    exact puts_end l A X r n w hn hl hX hXl hr
  · exact puts_any l A n cap X r k w hn hl hk hcap hck hX hXl hr
end Go.Proofs.YtnmijmhgmcapcaaDoor.Rul
