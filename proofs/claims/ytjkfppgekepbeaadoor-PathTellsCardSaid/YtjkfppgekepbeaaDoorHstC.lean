/-
  pct: known, In, addCodes, Encode, with the set of controls.
-/
import Derived.Test.YtjkfppgekepbeaaDoorHstB
import Derived.Test.YtjkfppgekepbeaaDoorAppendStep
import Derived.Deep.RegionLaw
import Derived.Maps.AppendAt
import Derived.Laws.BitsAllLaws
namespace Go.Proofs.YtjkfppgekepbeaaDoor.Hst
set_option maxRecDepth 100000
open Go.RowKit Utf Ut

/-- a byte's code -/
def dgU (n : Int) : Int := if n < 10 then 48 + n else 55 + n
def cd3 (b : Int) : List Int := [37, dgU (b / 16), dgU (b % 16)]
def cds (l : List Int) : List Int := l.flatMap cd3
/-- is a code point in the set of controls -/
def ctl (r : Int) : Bool := decide (r < 32 ∨ 126 < r)
def pOne (r : Int) : List Int := if ctl r = true then cds (encOne r) else [r]
/-- a row of code points, with percent codes of what is in the set of controls -/
def penc (l : List Int) : List Int := l.flatMap pOne
theorem known1 (w : World) : Calls Tryd.prog 41 #[.int .u8 1] w (fun e w' => e = .returned (.bool true) ∧ w = w') := by
  go_enter Tryd.func41, Tryd.ntmps41
  go_wp2_with fail
  go_ret
  exact ⟨rfl, rfl⟩
set_option maxHeartbeats 1000000 in
theorem further1 (r : Int) (w : World) : Calls Tryd.prog 61 #[.int .u8 1, .int .i32 r] w (fun e w' => e = .returned (.bool false) ∧ w = w') := by
  go_enter Tryd.func61, Tryd.ntmps61
  go_wp2_with fail
  go_ret
  exact ⟨rfl, rfl⟩
set_option maxHeartbeats 2000000 in
theorem In1 (r : Int) (w : World) : Calls Tryd.prog 42 #[.int .u8 1, .int .i32 r] w (fun e w' => e = .returned (.bool (ctl r)) ∧ w = w') := by
  have HK := Lib.hid (fun W => known1 W)
  have HF := Lib.hid (fun W => further1 r W)
  by_cases h1 : r < 32
  · have hd1 : decide (r < 32) = true := decide_eq_true h1
    have HE : Hid (ctl r = true) := Lib.hid (decide_eq_true (.inl h1))
    rw [HE.out]
    clear HE
    go_enter Tryd.func42, Tryd.ntmps42
    go_wp2_with (first | (go_at_call 41; refine (HK.out _).mono ?_; rintro e w1 ⟨rfl, rfl⟩) | fail)
    go_ret
    exact ⟨rfl, rfl⟩
  · have hd1 : decide (r < 32) = false := decide_eq_false h1
    by_cases h2 : 126 < r
    · have hd2 : decide (126 < r) = true := decide_eq_true h2
      have HE : Hid (ctl r = true) := Lib.hid (decide_eq_true (.inr h2))
      rw [HE.out]
      clear HE
      go_enter Tryd.func42, Tryd.ntmps42
      go_wp2_with (first | (go_at_call 41; refine (HK.out _).mono ?_; rintro e w1 ⟨rfl, rfl⟩) | fail)
      go_ret
      exact ⟨rfl, rfl⟩
    · have hd2 : decide (126 < r) = false := decide_eq_false h2
      have HE : Hid (ctl r = false) := Lib.hid (decide_eq_false (by omega))
      rw [HE.out]
      clear HE
      go_enter Tryd.func42, Tryd.ntmps42
      go_wp2_with (first | (go_at_call 41; refine (HK.out _).mono ?_; rintro e w1 ⟨rfl, rfl⟩) | (go_at_call 61; refine (HF.out _).mono ?_; rintro e w1 ⟨rfl, rfl⟩) | fail)
      go_ret
      exact ⟨rfl, rfl⟩
/-- a row stands apart from what a slice owns -/
def AP (v : Value) (A : Option Addr) : Prop := ∀ b o f, A = some ⟨b, o, f⟩ → v.ownBlock ≠ some b
theorem row_grownB {w w' : World} {v : Value} {A : Option Addr} {xs : List Value} (hr : Row w w.heap.size A xs) (hg : w.grownBy w' v.ownBlock) (hap : AP v A) : Row w' w'.heap.size A xs := by
  rcases hr with h | ⟨c, o, rfl, hc, hcell⟩
  · exact .inl h
  · refine .inr ⟨c, o, rfl, Nat.lt_of_lt_of_le hc hg.size, fun i hi => ?_⟩
    have h1 := hcell i hi
    rw [List.getElem?_eq_getElem hi] at h1 ⊢
    exact hg.cell h1 (fun e => hap c o none rfl e.symm)
section
variable {ops : Array Oper} {o : Oper} {a : Act} {K : Act → World → Prop} {Q : Exit → Act → World → Prop} {E : Prop}
/-- an append of bytes, in a region that draws its order; a row apart stays, and apart -/
theorem step_appB (B : Nat) (W : World) (hgd : o.guard = none) (s x : Operand) (ho : o.op = .call { callee := .builtin .append, args := #[s, x], argTypes := #[40, 40] })
    (v : Value) (n : Nat) (xs : List Int) (hs : a.eval s = v) (hown : W.ownsRow B 5 1 v n (cl .u8 xs)) (hB : B ≤ W.heap.size)
    (b0 o0 : Nat) (m c : Nat) (news : List Int) (hx : a.eval x = .slice (some ⟨b0, o0, none⟩) m c) (hl : news.length = m) (hr : Row W W.heap.size (some ⟨b0, o0, none⟩) (cl .u8 news)) (q : Nat) (hq : n + m = q) (hnm : q ≤ 11000000)
    (A2 : Option Addr) (ys : List Int) (hr2 : Row W W.heap.size A2 (cl .u8 ys)) (hap : AP v A2) (hlt : ∀ b o f, A2 = some ⟨b, o, f⟩ → b < W.heap.size)
    (h : ∀ A' c' w', w'.ownsRow B 5 1 (.slice A' q c') q (cl .u8 (xs ++ news)) → Below B W w' → Row w' w'.heap.size A2 (cl .u8 ys) → AP (.slice A' q c') A2 → K (a.put o.dst (.slice A' q c')) w') :
    if Region.wanted o (yielded ops a.tmps) = true then Oper.wp Tryd.prog o a W K Q else E := by
  subst hq
  obtain ⟨i0, hi, hz0, hz1, hz2⟩ := info_split info_u8
  rw [if_pos (show Region.wanted o (yielded ops a.tmps) = true by simp [Region.wanted, hgd])]
  have hnews : ∀ j u, (cl .u8 news)[j]? = some u → W.cell? ((⟨b0, o0, none⟩ : Addr).add j) = some u := by
    intro j u hu
    rcases hr with h | ⟨b, o, h, _, hc⟩
    · rw [h] at hu; simp at hu
    · injection h with h
      rw [h, Go.WideShapes.add_plain, hc j (List.getElem?_eq_some_iff.1 hu).1]
      exact hu
  obtain ⟨v', w', hrun, hO, hg, _, hob⟩ := run_append_own_at (P := Tryd.prog) W B 40 o.type 5 i0 (.int .u8 0) 1 1 Tryd.underlying40 hi hz0 hz1 hz2 rfl (Nat.zero_lt_succ 0) v n (cl .u8 xs) hown ⟨b0, o0, none⟩ m c (cl .u8 news) (by simp [hl]) hnews (one_u8 _) (by unfold maxLen; omega) (by omega) hB
  unfold Oper.wp execOp
  simp only [ho, resolve, invoke, builtin, Sem.run_bind, Sem.run_pure, Result.andThen_ok, List.map_toArray, List.map_cons, List.map_nil, hs, hx, hrun]
  obtain ⟨A', c', rfl, _, _⟩ := own_form hO
  refine h A' c' w' (by rw [cl_app]; exact hO) ((Below.refl B W).grown hg hB (fun j e => (hown.lt j e).1)) (row_grownB hr2 hg hap) (fun b o f hA => ?_)
  rcases hob with e | e
  · rw [e]; exact hap b o f hA
  · rw [e]
    intro e2
    have := hlt b o f hA
    have e3 := Option.some.inj e2
    omega
end
theorem litU : ∀ d : Fin 16, (((⟨#[48, 49, 50, 51, 52, 53, 54, 55, 56, 57, 65, 66, 67, 68, 69, 70]⟩ : ByteArray)[d.1]'(Nat.lt_of_lt_of_le d.2 (by decide))).toNat : Int) = dgU (d.1 : Int) := by decide
theorem litU' (d : Nat) (h : d < 16) (h2 : d < (⟨#[48, 49, 50, 51, 52, 53, 54, 55, 56, 57, 65, 66, 67, 68, 69, 70]⟩ : ByteArray).size) : (((⟨#[48, 49, 50, 51, 52, 53, 54, 55, 56, 57, 65, 66, 67, 68, 69, 70]⟩ : ByteArray)[d]'h2).toNat : Int) = dgU (d : Int) := litU ⟨d, h⟩
theorem cds_snoc {l : List Int} {k : Nat} {b : Int} (h : l[k]? = some b) : cds (l.take (k + 1)) = cds (l.take k) ++ cd3 b := by
  rw [List.take_add_one, h]
  simp [cds]
theorem cds_len (l : List Int) : (cds l).length = 3 * l.length := by
  induction l with
  | nil => rfl
  | cons a t ih => simp [cds, cd3] at ih ⊢; omega
theorem row_lit3 (wr : World) (a b c : Value) : Row (wr.alloc (.cells #[a, b, c] 5)).drew (wr.alloc (.cells #[a, b, c] 5)).drew.heap.size (some ⟨wr.heap.size, 0, none⟩) [a, b, c] := by
  have h : Row (wr.alloc (.cells #[a, b, c] 5)) (wr.alloc (.cells #[a, b, c] 5)).heap.size (some ⟨wr.heap.size, 0, none⟩) [a, b, c] := by
    rw [World.size_alloc]
    exact row_new _ _ 5 _ rfl
  exact h
theorem size_lit3 {wr : World} {B : Nat} (o : Obj) (h : B ≤ wr.heap.size) : B ≤ (wr.alloc o).drew.heap.size := by
  have : B ≤ (wr.alloc o).heap.size := by rw [World.size_alloc]; omega
  exact this
theorem own_drew {W : World} {b : Nat} {e : TypeId} {s n : Nat} {v : Value} {xs : List Value} (h : W.ownsRow b e s v n xs) : W.drew.ownsRow b e s v n xs := h
set_option maxHeartbeats 4000000 in
theorem addCodes_any (B : Nat) (A : Option Addr) (n c : Nat) (xs : List Int) (A2 : Option Addr) (m c2 : Nat) (ys : List Int) (w : World) (hB : B ≤ w.heap.size) (hn : n ≤ 1000000) (hO : w.ownsRow B 5 1 (.slice A n c) n (cl .u8 xs)) (hm : ys.length = m) (hm2 : m ≤ 1000) (hy : Byt ys) (hr : Row w w.heap.size A2 (cl .u8 ys)) (hap : AP (.slice A n c) A2) (hlt0 : ∀ b o f, A2 = some ⟨b, o, f⟩ → b < w.heap.size) :
    Calls Tryd.prog 43 #[.slice A n c, .slice A2 m c2] w (fun e w' => ∃ A' c', e = .returned (.slice A' (n + 3 * m) c') ∧ w'.ownsRow B 5 1 (.slice A' (n + 3 * m) c') (n + 3 * m) (cl .u8 (xs ++ cds ys)) ∧ Below B w w') := by
  have HLT := Lib.hid hlt0
  have HR0 := Lib.hid hr
  have HAP0 := Lib.hid hap
  have HY := Lib.hid hy
  have HM := Lib.hid hm
  have HO0 := Lib.hid hO
  clear hlt0 hap hy hm hr hO
  go_enter Tryd.func43, Tryd.ntmps43
  go_wp2_with fail
  go_loopg [0, 9] m (fun g s0 s9 wr => ∃ (k q c' : Nat) (A' : Option Addr), s9 = .int .i64 (k : Int) ∧ s0 = .slice A' q c' ∧ m - k = g ∧ k ≤ m ∧ q = n + 3 * k ∧ Hid (wr.ownsRow B 5 1 (.slice A' q c') q (cl .u8 (xs ++ cds (ys.take k)))) ∧ Hid (Below B w wr) ∧ Hid (Row wr wr.heap.size A2 (cl .u8 ys) ∧ AP (.slice A' q c') A2))
  case atStart => exact ⟨0, n, c, A, rfl, rfl, rfl, Nat.zero_le _, rfl, by simpa [cds] using HO0, Lib.hid (Below.refl _ _), Lib.hid ⟨HR0.out, HAP0.out⟩⟩
  case round =>
    clear HO0 HR0 HAP0
    obtain ⟨k, q, c', A', rfl, rfl, rfl, hk, hq, HO, HB, HR⟩ := hrel
    by_cases hlt : k < m
    · have hltz : (k : Int) < (m : Int) := by omega
      have hk' : k < ys.length := by rw [HM.out]; exact hlt
      obtain ⟨b, hb⟩ : ∃ b, ys[k]? = some b := ⟨_, List.getElem?_eq_getElem hk'⟩
      obtain ⟨g0, o0, rfl, hb0, hcc⟩ := HR.out.1.at_ (by simp; omega)
      have c0 : wr.cell? ⟨g0, o0 + k, none⟩ = some (.int .u8 b) := by rw [hcc k (by simp; omega)]; simp [cl, hb]
      have hbb := HY.out b (List.mem_of_getElem? hb)
      obtain ⟨bn, rfl⟩ := Int.eq_ofNat_of_zero_le hbb.1
      have hbn : bn < 256 := by omega
      have HS := Lib.hid (cds_snoc hb)
      obtain ⟨hi, hhi⟩ : ∃ h, bn / 16 = h := ⟨_, rfl⟩
      obtain ⟨lo, hlo⟩ : ∃ h, bn % 16 = h := ⟨_, rfl⟩
      have h1 : (bn : Int) / 16 = (hi : Int) := by omega
      have h2 : (bn : Int) % 16 = (lo : Int) := by omega
      have hh16 : hi < 16 := by omega
      have hl16 : lo < 16 := by omega
      have HS2 : Hid (cds (ys.take (k + 1)) = cds (ys.take k) ++ [37, dgU (hi : Int), dgU (lo : Int)]) := Lib.hid (by rw [HS.out, cd3, h1, h2])
      have hand : bits .and .u8 (bn : Int) 15 = (lo : Int) := by
        rw [u8_and (bn : Int) 15 (by omega) (by omega) (by omega) (by omega)]
        have e := Nat.and_two_pow_sub_one_eq_mod bn 4
        have e2 : ((bn : Int).toNat &&& (15 : Int).toNat) = bn % 16 := e
        rw [e2, hlo]
      have hx1 := litU' hi hh16 (Nat.lt_of_lt_of_le hh16 (by decide))
      have hx2 := litU' lo hl16 (Nat.lt_of_lt_of_le hl16 (by decide))
      obtain ⟨e1, he1⟩ : ∃ e, (⟨#[48, 49, 50, 51, 52, 53, 54, 55, 56, 57, 65, 66, 67, 68, 69, 70]⟩ : ByteArray)[hi]'(Nat.lt_of_lt_of_le hh16 (by decide)) = e := ⟨_, rfl⟩
      obtain ⟨e2, he2⟩ : ∃ e, (⟨#[48, 49, 50, 51, 52, 53, 54, 55, 56, 57, 65, 66, 67, 68, 69, 70]⟩ : ByteArray)[lo]'(Nat.lt_of_lt_of_le hl16 (by decide)) = e := ⟨_, rfl⟩
      rw [he1] at hx1
      rw [he2] at hx2
      have HS3 : Hid (xs ++ cds (ys.take (k + 1)) = (xs ++ cds (ys.take k)) ++ [37, (e1.toNat : Int), (e2.toNat : Int)]) := Lib.hid (by rw [HS2.out, hx1, hx2, List.append_assoc])
      have HO1 := HO.out
      have HQ := Lib.hid hq
      have hle : B ≤ wr.heap.size := Nat.le_trans hB HB.out.size
      have hq1 : q + 3 ≤ 11000000 := by omega
      have i1 : (0 : Int) ≤ (hi : Int) ∧ (hi : Int) < 16 := by omega
      have i2 : (0 : Int) ≤ (lo : Int) ∧ (lo : Int) < 16 := by omega
      have b2 : (0 : Int) ≤ (bn : Int) ∧ (bn : Int) < 256 := by omega
      have hqk : n + 3 * k + 3 = n + 3 * (k + 1) := by omega
      have HQK : Hid (q + 3 = n + 3 * (k + 1)) := Lib.hid (by omega)
      clear hb hcc hhi hlo HS HS2 hk' hx1 hx2 hq hqk
      have HRL : Hid (∀ O, Row (wr.alloc O).drew (wr.alloc O).drew.heap.size (some ⟨g0, o0, none⟩) (cl .u8 ys)) := Lib.hid (fun O => by
        have h := row_grownB (v := .slice none 0 0) (w' := wr.alloc O) HR.out.1 (World.grownBy_alloc wr O none) (fun _ _ _ _ e => by cases e)
        exact h)
      have HLL : Hid (∀ O : Obj, ∀ b o f, (some (⟨g0, o0, none⟩ : Addr)) = some ⟨b, o, f⟩ → b < (wr.alloc O).drew.heap.size) := Lib.hid (fun O b o f e => by
        have h1 := HLT.out b o f e
        have h2 := HB.out.size
        have : b < (wr.alloc O).heap.size := by rw [World.size_alloc]; omega
        exact this)
      go_upto_region 4 with fail
      go_region_law (first
        | (refine step_appB B _ rfl (.tmp 13) (.tmp 20) rfl (.slice A' q c') q (xs ++ cds (ys.take k)) rfl (own_drew (HO1.alloc _)) (size_lit3 _ hle) wr.heap.size 0 3 3 [37, (e1.toNat : Int), (e2.toNat : Int)] rfl rfl (row_lit3 _ _ _ _) (q + 3) rfl hq1 (some ⟨g0, o0, none⟩) ys (HRL.out _) HR.out.2 (HLL.out _) ?_; intro A3 c3 w3 hO3 hB3 hR3 hP3)
        | fail)
      all_goals
        go_wp2_with fail
        go_roundg (m - (k + 1))
        case measure => omega
        case rel => exact ⟨k + 1, q + 3, c3, A3, by go_num, rfl, rfl, by omega, HQK.out, Lib.hid (by rw [HS3.out]; exact hO3), Lib.hid (HB.out.trans (((Below.refl B wr).alloc hle _).drew.trans hB3)), Lib.hid ⟨hR3, hP3⟩⟩
    · obtain rfl : k = m := by omega
      have hltz : ¬ (k : Int) < (k : Int) := by omega
      have HE : Hid (ys.take k = ys) := Lib.hid (List.take_of_length_le (by rw [HM.out]; exact Nat.le_refl _))
      subst hq
      go_wp2_with fail
      go_ret
      refine ⟨A', c', rfl, ?_, HB.out⟩
      have := HO.out
      rw [HE.out, cl_app] at this
      exact this
end Go.Proofs.YtjkfppgekepbeaaDoor.Hst
