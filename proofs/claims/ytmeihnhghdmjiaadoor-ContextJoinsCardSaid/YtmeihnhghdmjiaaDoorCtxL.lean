/-
  fascialaw08.ContextJoins: the closure that lays a row, and asks At.
-/
import Derived.Test.YtmeihnhghdmjiaaDoorCtxK
import Derived.Maps.AppendAt
namespace Go.Proofs.YtmeihnhghdmjiaaDoor.Ctx
open Go.RowKit Ucd

theorem cl_snoc (R : List Int) (r : Int) : cl .i32 (R ++ [r]) = cl .i32 R ++ [.int .i32 r] := by simp [cl]
/-- append(s, y), where the one to be appended has just been laid -/
theorem wpList_app1 {ops : Array Oper} {rest : List Oper} {o : Oper} {a : Act} {Q : Exit → Act → World → Prop} (w0 W : World) (hgd : o.guard = none) (s x : Operand)
    (ho : o.op = .call { callee := .builtin .append, args := #[s, x], argTypes := #[22, 22] })
    (v : Value) (n m : Nat) (xs : List Int) (y : Int) (hs : a.eval s = v) (hown : W.ownsRow w0.heap.size 21 1 v n (cl .i32 xs)) (hB : Below w0.heap.size w0 W)
    (hx : a.eval x = .slice (some ⟨W.heap.size, 0, none⟩) 1 1) (hm : n + 1 = m) (hm2 : m ≤ 100000)
    (h : ∀ A' c' w', w'.ownsRow w0.heap.size 21 1 (.slice A' m c') m (cl .i32 (xs ++ [y])) → Below w0.heap.size w0 w' → wpList Tryd.prog ops Q rest (a.put o.dst (.slice A' m c')) w') :
    wpList Tryd.prog ops Q (o :: rest) a (W.alloc (.cells #[.int .i32 y] 21)) := by
  subst hm
  obtain ⟨i0, hi, hz0, hz1, hz2⟩ := info_split info_int32
  refine wpList_append_row _ hgd s x 22 ho w0.heap.size 21 i0 (.int .i32 0) 1 4 Tryd.underlying22 hi hz0 hz1 hz2 rfl (Nat.zero_lt_succ 0) v n (cl .i32 xs) hs (hown.alloc _) _ _ 1 1 [.int .i32 y] hx rfl (row_new _ [.int .i32 y] 21) (by simp [Value.oneCell']) (by unfold maxLen; omega) (by omega) (hB.alloc hB.size _).size ?_
  intro v' w' hO hg
  have hB2 := (hB.alloc hB.size (.cells #[.int .i32 y] 21)).grown hg (hB.alloc hB.size _).size (fun j e => (hown.lt j e).1)
  obtain ⟨A', c', rfl, _, _⟩ := own_form hO
  exact h A' c' w' (by rw [cl_snoc]; exact hO) hB2
/-- the row -/
def jrow (j a b : Int) (p q : Nat) : List Int := (((a :: List.replicate p 1614) ++ [j]) ++ List.replicate q 1617) ++ [b]
theorem rep_snoc (k : Nat) (x : Int) (xs : List Int) : (xs ++ List.replicate k x) ++ [x] = xs ++ List.replicate (k + 1) x := by
  rw [List.append_assoc, ← List.replicate_succ']
def boxAt (w : World) (X : Nat) (v : Value) : Prop := X < w.heap.size ∧ w.cell? ⟨X, 0, none⟩ = some v
theorem boxAt.go {w w' : World} {X : Nat} {v : Value} (h : boxAt w X v) (hB : Below w.heap.size w w') : w'.cell? ⟨X, 0, none⟩ = some v := (hB.cell (p := ⟨X, 0, none⟩) h.1).trans h.2
set_option maxRecDepth 100000 in
set_option maxHeartbeats 4000000 in
theorem row_call (j a b bf af : Int) (p q : Nat) (A : Option Addr) (c X1 X2 X3 : Nat) (w : World) (hp : bf.tmod 4 = (p : Int)) (hq : af.tmod 4 = (q : Int)) (hp4 : p < 4) (hq4 : q < 4)
    (hC : C32 (jrow j a b p q)) (h1 : boxAt w X1 (.int .u8 bf)) (h2 : boxAt w X2 (.int .u8 af)) (h3 : boxAt w X3 (.int .i32 b)) (hr : Row w w.heap.size A (cl .i32 [a])) :
    Calls Tryd.prog 12 #[.int .i32 j, .slice A 1 c, .pointer (some ⟨X1, 0, none⟩), .pointer (some ⟨X2, 0, none⟩), .pointer (some ⟨X3, 0, none⟩)] w (Tells (.int .u8 (atC (jrow j a b p q) (1 + p))) w) := by
  obtain ⟨i0, hi, hzz0, hzz1, hzz2⟩ := info_split info_int32
  have HB1 := Lib.hid h1
  have HB2 := Lib.hid h2
  have HB3 := Lib.hid h3
  have HC := Lib.hid hC
  have ho0 := own_none w w.heap.size 21 (Nat.le_refl _)
  have hr0 := hr.alloc (Nat.le_refl _) (.cells #[] 21)
  have hwp : IntKind.u8.wrap (p : Int) = (p : Int) := by simp [IntKind.wrap, IntKind.bits, IntKind.signed]; omega
  have hwq : IntKind.u8.wrap (q : Int) = (q : Int) := by simp [IntKind.wrap, IntKind.bits, IntKind.signed]; omega
  clear h1 h2 h3 hC
  go_enter Tryd.func12, Tryd.ntmps12
  go_upto_region 2 with (first
    | (at_builtin; refine wpList_append_row _ rfl _ _ 22 rfl w.heap.size 21 i0 (.int .i32 0) 1 4 Tryd.underlying22 hi hzz0 hzz1 hzz2 rfl (by decide) _ 0 [] rfl ho0 w.heap.size _ 1 c (cl .i32 [a]) rfl rfl hr0 (one_cl _ _) (by unfold maxLen; omega) (by omega) (upA w _).size ?_; intro v1 w1 hO1 hg1; have hA1 := (upA w (.cells #[] 21)).grown hg1 (upA w _).size (fun j e => (ho0.lt j e).1); obtain ⟨A1, c1, hv1, _, _⟩ := own_form hO1; subst hv1)
    | fail)
  have d1 := HB1.out.go hA1
  go_wp2_with fail
  go_loopg [8, 15] p (fun m s8 s15 wr => ∃ (k : Nat) (B : Option Addr) (c' : Nat), s15 = .int .u8 (k : Int) ∧ s8 = .slice B (1 + k) c' ∧ m = p - k ∧ k ≤ p ∧ Below w.heap.size w wr ∧ wr.ownsRow w.heap.size 21 1 (.slice B (1 + k) c') (1 + k) (cl .i32 ([a] ++ List.replicate k 1614)))
  case atStart => exact ⟨0, A1, c1, rfl, rfl, rfl, Nat.zero_le _, hA1, hO1⟩
  case round =>
    clear hO1 hg1 hA1 ho0 hr0 d1 hr
    obtain ⟨k, B, c', rfl, rfl, rfl, hk, hB, hO⟩ := hrel
    by_cases hlt : k < p
    · have hltz : (k : Int) < (p : Int) := by omega
      have hwk : IntKind.u8.wrap ((k : Int) + 1) = ((k + 1 : Nat) : Int) := by simp [IntKind.wrap, IntKind.bits, IntKind.signed]; omega
      go_wp2_with (first
        | (at_builtin; (refine wpList_app1 w wr (by rfl) _ _ (by rfl) (.slice B (1 + k) c') (1 + k) (1 + (k + 1)) _ 1614 (by rfl) hO hB (by rfl) (by omega) (by omega) ?_; intro A2 c2 w2 hO2 hB2; rw [rep_snoc] at hO2))
        | fail)
      go_roundg (p - (k + 1))
      case measure => omega
      case rel => exact ⟨k + 1, A2, c2, by first | rfl | (rw [hwk]), rfl, rfl, by omega, hB2, hO2⟩
    · obtain rfl : k = p := by omega
      have hltz : ¬ ((k : Nat) : Int) < (k : Int) := by omega
      obtain ⟨i, hii⟩ : ∃ i, 1 + k = i := ⟨_, rfl⟩
      have hi5 : i ≤ 5 := by omega
      rw [hii] at hO ⊢
      have HI := Lib.hid hii
      clear hii
      have HJ : Hid (jrow j a b k q = ((([a] ++ List.replicate k 1614) ++ [j]) ++ List.replicate q 1617) ++ [b]) := Lib.hid rfl
      unfold jrow at HC
      have e0 : a :: List.replicate k 1614 = [a] ++ List.replicate k 1614 := rfl
      rw [e0] at HC
      clear e0
      generalize [a] ++ List.replicate k 1614 = L1 at hO HC HJ
      clear hwp hlt hltz hp hk hp4
      go_upto_region 8 with (first
        | (at_builtin; refine wpList_app1 w wr (by rfl) _ _ (by rfl) (.slice B i c') i (i + 1) _ j (by rfl) hO hB (by rfl) rfl (by omega) ?_; intro A3 c3 w3 hO3 hB3)
        | fail)
      have d2 := HB2.out.go hB3
      clear hO hB
      generalize L1 ++ [j] = L2 at hO3 HC HJ
      go_wp2_with fail
      go_loopg [8, 29] q (fun m s8 s29 wr => ∃ (k : Nat) (B : Option Addr) (c' : Nat), s29 = .int .u8 (k : Int) ∧ s8 = .slice B (i + 1 + k) c' ∧ m = q - k ∧ k ≤ q ∧ Below w.heap.size w wr ∧ wr.ownsRow w.heap.size 21 1 (.slice B (i + 1 + k) c') (i + 1 + k) (cl .i32 (L2 ++ List.replicate k 1617)))
      case atStart => exact ⟨0, A3, c3, rfl, rfl, rfl, Nat.zero_le _, hB3, by rw [List.replicate_zero, List.append_nil]; exact hO3⟩
      case round =>
        clear hO3 hB3 d2
        obtain ⟨m, B4, c4, rfl, rfl, rfl, hm, hB, hO⟩ := hrel
        by_cases hlt : m < q
        · have hltz : (m : Int) < (q : Int) := by omega
          have hwk : IntKind.u8.wrap ((m : Int) + 1) = ((m + 1 : Nat) : Int) := by simp [IntKind.wrap, IntKind.bits, IntKind.signed]; omega
          go_wp2_with (first
            | (at_builtin; refine wpList_app1 w wr (by rfl) _ _ (by rfl) (.slice B4 (i + 1 + m) c4) (i + 1 + m) (i + 1 + (m + 1)) _ 1617 (by rfl) hO hB (by rfl) (by omega) (by omega) ?_; intro A2 c2 w2 hO2 hB2; rw [rep_snoc] at hO2)
            | fail)
          go_roundg (q - (m + 1))
          case measure => omega
          case rel => exact ⟨m + 1, A2, c2, by first | rfl | (rw [hwk]), rfl, rfl, by omega, hB2, hO2⟩
        · obtain rfl : m = q := by omega
          have hltz : ¬ ((m : Nat) : Int) < (m : Int) := by omega
          have d3 := HB3.out.go hB
          have HLN : Hid ((L2 ++ List.replicate m 1617 ++ [b]).length = i + 1 + m + 1 ∧ (cl .i32 (L2 ++ List.replicate m 1617)).length = i + 1 + m) := Lib.hid (by
            have h0 : (cl .i32 (L2 ++ List.replicate m 1617)).length = i + 1 + m := by have := hO.1; omega
            refine ⟨?_, h0⟩
            have h1 : (L2 ++ List.replicate m 1617).length = i + 1 + m := by simpa [cl] using h0
            rw [List.length_append, h1]; rfl)
          generalize L2 ++ List.replicate m 1617 = L3 at hO HC HLN HJ
          clear hwq hq hlt
          go_wp2_with (first
            | (at_builtin; refine wpList_app1 w wr (by rfl) _ _ (by rfl) (.slice B4 (i + 1 + m) c4) (i + 1 + m) (i + 1 + m + 1) _ b (by rfl) hO hB (by rfl) rfl (by omega) ?_; intro A6 c6 w6 hO6 hB6; have HX := Lib.hid (At_any (L3 ++ [b]) i A6 (i + 1 + m + 1) c6 w6 HLN.out.1 (by omega) (by omega) HC.out (own_row hO6)))
            | (go_at_call 8; refine HX.out.mono ?_; rintro e w7 ⟨rfl, hB7⟩)
            | fail)
          go_ret
          exact ⟨by rw [HJ.out, HI.out]; rfl, upB hB6 hB7⟩
end Go.Proofs.YtmeihnhghdmjiaaDoor.Ctx
