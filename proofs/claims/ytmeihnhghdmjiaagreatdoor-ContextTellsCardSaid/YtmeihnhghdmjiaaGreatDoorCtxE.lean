/-
  context: At.
-/
import Derived.Test.YtmeihnhghdmjiaaGreatDoorCtxD
import Derived.Deep.RegionHeld3
import Derived.Deep.DrawnRows
import Derived.Deep.DeepCutAuto
namespace Go.Proofs.YtmeihnhghdmjiaaGreatDoor.Ctx
open Go.RowKit Go.Maps Ucd
attribute [local go_sem ↓] Go.wp_at_zero Go.wp_at_succ

theorem kyv_in {r : Int} (h0 : -2147483648 ≤ r) (h1 : r ≤ 2147483647) : -2147483648 ≤ kyv r ∧ kyv r ≤ 2147483647 := by
  unfold kyv
  split
  · omega
  · split <;> omega
def fid : Nat → FuncId
  | 0 => 17
  | 1 => 18
  | 2 => 19
  | 3 => 20
  | 4 => 21
  | 5 => 22
  | 6 => 23
  | _ => 24
theorem fnC_fid : ∀ k, fnC k = .func (.func (fid k)) #[] #[]
  | 0 | 1 | 2 | 3 | 4 | 5 | 6 | _ + 7 => rfl
theorem enterC : ∀ (k : Nat) (args : Array Value) (w : World), (callFunc (fid k) args).run Tryz.prog w = .ok (.enter (fid k) args) w
  | 0, _, _ | 1, _, _ | 2, _, _ | 3, _, _ | 4, _, _ | 5, _, _ | 6, _, _ | _ + 7, _, _ => by kernel_rfl
theorem ok_7 (l : List Int) (i : Nat) : ∀ k, 7 ≤ k → ok l i k = ok l i 7
  | 0, h | 1, h | 2, h | 3, h | 4, h | 5, h | 6, h => by omega
  | _ + 7, _ => rfl
theorem holds_any (l : List Int) (i k : Nat) (A : Option Addr) (n c : Nat) (w : World) (hn : l.length = n) (hi : i < n) (hn1 : n ≤ 1000000) (hk : k < 8) (hr : Row w w.heap.size A (cl .i32 l)) : Calls Tryz.prog (fid k) #[.slice A n c, .int .i64 (i : Int)] w (IsB (ok l i k) w) := by
  match k, hk with
  | 0, _ => exact between_any l i A n c w hn hi hn1 hr
  | 1, _ => exact before_any l i A n c w hn hi hn1 hr
  | 2, _ => exact hebrew_any l i A n c w hn hi hn1 hr
  | 3, _ => exact parts_any l i A n c w hn hi hn1 hr
  | 4, _ => exact virama_any l i A n c w hn hi hn1 hr
  | 5, _ => exact withJapanese_any l i A n c w hn hn1 hr
  | 6, _ => exact withoutEast_any l i A n c w hn hn1 hr
  | 7, _ => exact withoutArabic_any l i A n c w hn hn1 hr
theorem look9 {w : World} {b n : Nat} (r : Int) (h0 : -2147483648 ≤ r) (h1 : r ≤ 2147483647) (hk : kd r < 8) (h : CMap w b n D9) :
    (Instr.lookup 31 (.map (some b)) (.int .i32 (kyv r)) true).run Tryz.prog w = .ok (.tuple #[.agg #[.int .u8 (cls (kd r)), .bool (whl (kd r)), .func (.func (fid (kd r))) #[] #[]], .bool true]) w := by
  have := (D9_at (kyv r)).1
  rw [if_pos (show kdK (kyv r) < 8 from hk)] at this
  rw [← fnC_fid]
  exact h.look (kyv_in h0 h1).1 (kyv_in h0 h1).2 this ((D9_at (kyv r)).2.trans (decide_eq_true hk))
theorem look8 {w : World} {b n : Nat} (r : Int) (h0 : -2147483648 ≤ r) (h1 : r ≤ 2147483647) (hk : ¬ kd r < 8) (h : CMap w b n D9) :
    (Instr.lookup 31 (.map (some b)) (.int .i32 (kyv r)) true).run Tryz.prog w = .ok (.tuple #[.agg #[.int .u8 0, .bool false, .nilFunc], .bool false]) w := by
  have := (D9_at (kyv r)).1
  rw [if_neg (show ¬ kdK (kyv r) < 8 from hk)] at this
  exact h.look (kyv_in h0 h1).1 (kyv_in h0 h1).2 this ((D9_at (kyv r)).2.trans (decide_eq_false hk))
theorem below_undrew {B : Nat} {w w' : World} (h : Below B w.drew w') : Below B w w' := ⟨h.os, h.tape, h.output, h.size, h.block⟩
theorem below_past {w w' : World} (o : Obj) (h : Below (w.alloc o).heap.size (w.alloc o) w') : Below w.heap.size w w' := (upA w o).trans (h.mono (by show w.heap.size ≤ (w.heap.push o).size; simp))
theorem upDA {w w' : World} (o : Obj) (h : Below (w.alloc o).drew.heap.size (w.alloc o).drew w') : Below w.heap.size w w' := below_past o (below_undrew (w := w.alloc o) h)
theorem upAB {w w1 w2 : World} (o : Obj) (h1 : Below w.heap.size w w1) (h2 : Below (w1.alloc o).heap.size (w1.alloc o) w2) : Below w.heap.size w w2 := upB h1 (below_past o h2)
theorem alloc_new (w : World) (o : Obj) : (w.alloc o).heap[w.heap.size]? = some o := by
  show (w.heap.push o)[w.heap.size]? = _
  simp
theorem keptO {w w' : World} {B : Nat} {o : Obj} (h : w.heap[B]? = some o) (hb : Below w.heap.size w w') : w'.heap[B]? = some o :=
  (hb.block _ (Array.getElem?_eq_some_iff.1 h).1).trans h
theorem CMap.alloc {w : World} {b n : Nat} {D : DataW Value} (h : CMap w b n D) (o : Obj) : CMap (w.alloc o) b n D := h.below (upA w o)
theorem CMap.up1 {w w1 : World} {n : Nat} {D : DataW Value} (o : Obj) (h : CMap w1 (w.alloc o).heap.size n D) : CMap w1 (w.heap.size + 1) n D := by
  have e : (w.alloc o).heap.size = w.heap.size + 1 := by show (w.heap.push o).size = _; simp
  rwa [e] at h
theorem keptA {w : World} {B : Nat} {o : Obj} (h : w.heap[B]? = some o) (o' : Obj) : (w.alloc o').heap[B]? = some o := keptO h (upA w o')
theorem cells3 {w : World} {X : Nat} {a b c : Value} {t : TypeId} (h : w.heap[X]? = some (.cells #[a, b, c] t (0, 0))) :
    w.cell? ⟨X, 0, none⟩ = some a ∧ w.cell? ⟨X, 1, none⟩ = some b ∧ w.cell? ⟨X, 2, none⟩ = some c ∧ w.frozen? ⟨X, 0, none⟩ = false ∧ w.frozen? ⟨X, 1, none⟩ = false ∧ w.frozen? ⟨X, 2, none⟩ = false := by
  simp [World.cell?, World.frozen?, h]
theorem set3 {w : World} {X : Nat} {a b c x y f : Value} {t : TypeId} (h : w.heap[X]? = some (.cells #[a, b, c] t (0, 0))) :
    (((w.setCell ⟨X, 0, none⟩ x).setCell ⟨X, 1, none⟩ y).setCell ⟨X, 2, none⟩ f).heap[X]? = some (.cells #[x, y, f] t (0, 0)) := by
  simp [World.setCell, Array.getElem?_modify, h]
set_option maxRecDepth 100000 in
set_option maxHeartbeats 1000000 in
theorem At_yes (l : List Int) (i : Nat) (A : Option Addr) (n c : Nat) (w : World) (hn : l.length = n) (hi : i < n) (hn1 : n ≤ 1000000) (hC : C32 l) (hk : kd l[i]! < 8) (hr : Row w w.heap.size A (cl .i32 l)) : Calls Tryz.prog 5 #[.slice A n c, .int .i64 (i : Int)] w (Tells (.int .u8 (if ok l i (kd l[i]!) = false then cls (kd l[i]!) else 0)) w) := by
  have hr' := hr
  obtain ⟨b, o, rfl, hb, hcc⟩ := hr.at_ (by simp; omega)
  have c0 := row_cell hcc i (by omega)
  have hc := hC _ (mems (l := l) (i := i) (by omega))
  have HH := Lib.hid (fun W (h : Row W W.heap.size (some ⟨b, o, none⟩) (cl .i32 l)) => holds_any l i _ _ n c W hn hi hn1 hk h)
  obtain ⟨r, hr0⟩ : ∃ r, l[i]! = r := ⟨_, rfl⟩
  rw [hr0] at c0 hc hk HH ⊢
  have HL := Lib.hid (fun w b (h : CMap w b 9 D9) => look9 r hc.1 hc.2 hk h)
  have HC := Lib.hid conditions_any
  have HK := Lib.hid (key_any r)
  have b0 : (0 : Int) ≤ (i : Int) := by omega
  have b1 : (i : Int) < (n : Int) := by omega
  clear hcc hr0 hc hk hC hr hn hi hn1
  have hen := enterC (kd r)
  generalize kd r = k at HH HL hen ⊢
  generalize ok l i k = q at HH ⊢
  generalize fid k = φ at HH HL hen
  generalize cls k = x at HL ⊢
  generalize whl k = y at HL
  have HB := Lib.hid hb
  clear hb
  go_enter Tryz.func5, Tryz.ntmps5
  go_upto_region 3 with fail
  go_cut [5, 6] (fun s5 s6 wx => s6 = .bool true ∧ ∃ X, s5 = .pointer (some ⟨X, 0, none⟩) ∧ Below w.heap.size w wx ∧ wx.heap[X]? = some (.cells #[.int .u8 x, .bool y, .func (.func φ) #[] #[]] 29 (0, 0)))
  case first =>
    have cD : w.drew.cell? ⟨b, o + i, none⟩ = some (.int .i32 r) := c0
    have cAD : (w.alloc (.cells #[.int .u8 0, .bool false, .nilFunc] 29)).drew.cell? ⟨b, o + i, none⟩ = some (.int .i32 r) := (Below.cell (B := w.heap.size) (Below.drew (upA w (.cells #[.int .u8 0, .bool false, .nilFunc] 29))) HB.out).trans c0
    go_region_held3 (fun w' => w'.cell? ⟨b, o + i, none⟩ = some (.int .i32 r)) (first
        | with_reducible exact cD
        | with_reducible exact cAD
        | with_reducible exact (Below.cell (B := w.heap.size) hA HB.out).trans c0
        | with_reducible exact (Below.cell (B := w.heap.size) (Below.setCell (Below.setCell (Below.setCell hA hXX _) hXX _) hXX _) HB.out).trans c0
        | with_reducible exact (Below.cell (B := w.heap.size) (Below.alloc hA hA.size _) HB.out).trans c0) (first
      | (go_at_call 10; refine (HC.out _).mono ?_; rintro e w1 ⟨rfl, hm0, hb1⟩; (with_reducible have hbP : Below w.drew.heap.size w.drew w1 := hb1); have hm : CMap w1 w.heap.size 9 D9 := hm0; have hA : Below w.heap.size w w1 := below_undrew hb1; clear hm0 hb1; have hl := HL.out _ _ hm; have hla := HL.out _ _ (CMap.alloc hm (.cells #[.int .u8 0, .bool false, .nilFunc] 29)))
      | (go_at_call 10; refine (HC.out _).mono ?_; rintro e w1 ⟨rfl, hm0, hb1⟩; (with_reducible have hbP : Below (w.alloc (.cells #[.int .u8 0, .bool false, .nilFunc] 29)).drew.heap.size (w.alloc (.cells #[.int .u8 0, .bool false, .nilFunc] 29)).drew w1 := hb1); have hm : CMap w1 (w.heap.size + 1) 9 D9 := CMap.up1 (.cells #[.int .u8 0, .bool false, .nilFunc] 29) hm0; have hA : Below w.heap.size w w1 := upDA (.cells #[.int .u8 0, .bool false, .nilFunc] 29) hb1; have hX : w1.heap[w.heap.size]? = some (.cells #[.int .u8 0, .bool false, .nilFunc] 29) := keptO (w := (w.alloc (.cells #[.int .u8 0, .bool false, .nilFunc] 29)).drew) (alloc_new w (.cells #[.int .u8 0, .bool false, .nilFunc] 29)) hb1; clear hm0 hb1; have hl := HL.out _ _ hm)
      | (go_at_call 11; refine (HK.out _).mono ?_; rintro e w2 ⟨rfl, hb2⟩; (with_reducible have hbP2 : Below w1.heap.size w1 w2 := hb2); have hX2 := keptO hX hb2; obtain ⟨x0, x1, x2, f0, f1, f2⟩ := cells3 hX2; have hXX : w.heap.size ≤ w.heap.size := Nat.le_refl _; have hA' := upB hA hb2; have hm' := CMap.below hm hb2; clear hA hm hl hX; have hA := hA'; have hm := hm'; have hl := HL.out _ _ hm)
      | (go_at_call 11; refine (HK.out _).mono ?_; rintro e w2 ⟨rfl, hb2⟩; (with_reducible have hbP2 : Below w1.heap.size w1 w2 := hb2); have hA' := upB hA hb2; have hm' := CMap.below hm hb2; clear hA hm hl hla; have hA := hA'; have hm := hm'; have hl := HL.out _ _ hm; have hla := HL.out _ _ (CMap.alloc hm (.cells #[.int .u8 0, .bool false, .nilFunc] 29)))
      | (go_at_call 11; refine (HK.out _).mono ?_; rintro e w2 ⟨rfl, hb2⟩; (with_reducible have hbP2 : Below (w1.alloc (.cells #[.int .u8 0, .bool false, .nilFunc] 29)).heap.size (w1.alloc (.cells #[.int .u8 0, .bool false, .nilFunc] 29)) w2 := hb2); have hX2 := keptO (alloc_new w1 (.cells #[.int .u8 0, .bool false, .nilFunc] 29)) hb2; obtain ⟨x0, x1, x2, f0, f1, f2⟩ := cells3 hX2; have hXX : w.heap.size ≤ w1.heap.size := hA.size; have hA' := upAB (.cells #[.int .u8 0, .bool false, .nilFunc] 29) hA hb2; have hm' := CMap.below (CMap.alloc hm (.cells #[.int .u8 0, .bool false, .nilFunc] 29)) hb2; clear hA hm hl hla; have hA := hA'; have hm := hm'; have hl := HL.out _ _ hm)
      | fail)
    all_goals (
      go_wp2_with fail
      go_meet
      first
        | exact ⟨rfl, _, rfl, ((hA.setCell hXX _).setCell hXX _).setCell hXX _, set3 hX2⟩
        | exact ⟨rfl, _, rfl, hA.alloc hA.size _, alloc_new _ _⟩)
  case rest =>
    obtain ⟨rfl, X, rfl, hAx, hX⟩ := hcut
    obtain ⟨x0, x1, x2, _, _, _⟩ := cells3 hX
    have HX := Lib.hid (Array.getElem?_eq_some_iff.1 hX).1
    have HF := Lib.hid (HH.out wc (upR hr' hAx))
    clear hX hr' HH HL HC HK
    cases q with
    | true =>
      go_wp2_with (first | (refine HF.out.mono ?_; rintro e w5 ⟨rfl, hb5⟩; have y0 := (hb5.cell (p := ⟨X, 0, none⟩) HX.out).trans x0) | fail)
      go_ret
      exact ⟨rfl, upB hAx hb5⟩
    | false =>
      go_wp2_with (first | (refine HF.out.mono ?_; rintro e w5 ⟨rfl, hb5⟩; have y0 := (hb5.cell (p := ⟨X, 0, none⟩) HX.out).trans x0) | fail)
      go_ret
      exact ⟨rfl, upB hAx hb5⟩
end Go.Proofs.YtmeihnhghdmjiaaGreatDoor.Ctx
