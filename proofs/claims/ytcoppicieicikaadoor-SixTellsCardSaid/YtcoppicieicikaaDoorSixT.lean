/-
  Rows of texts, cut and joined.
-/
import Derived.Test.YtcoppicieicikaaDoorSixS
namespace Go.Proofs.YtcoppicieicikaaDoor.Sx
open Go.RowKit

theorem own_cells {w : World} {B b0 size n m c : Nat} {A : Option Addr} {xs : List ByteArray} (h : w.ownsRow B b0 size (.slice A m c) n (sc xs)) (hn : xs.length = n) (h0 : 0 < n) : ∃ b o, A = some ⟨b, o, none⟩ ∧ b < w.heap.size ∧ n ≤ c ∧ ∀ (j : Nat) y, xs[j]? = some y → w.cell? ⟨b, o + j, none⟩ = some (.string y) := by
  obtain ⟨b, o, rfl, hb, hc⟩ := (own_row h).at_ (by rw [List.length_map, hn]; exact h0)
  refine ⟨b, o, rfl, hb, own_cap h, fun j y hy => ?_⟩
  have hj := (List.getElem?_eq_some_iff.1 hy).1
  rw [hc j (by rw [List.length_map]; exact hj), List.getElem?_map, hy]
  rfl
theorem underS : Tryd.prog.underlying 35 = some (.slice (Tryd.prog.elem 35)) := by simp [Program.elem, Tryd.underlying35]
theorem elemS : Tryd.prog.elem 35 = 9 := by simp [Program.elem, Tryd.underlying35]
theorem sizeS (W : World) : (sizeOf 9).run Tryd.prog W = .ok 1 W := by kernel_rfl
/-- the place behind l texts -/
def offc (o l c : Nat) : Nat := if c = l then o else o + l
theorem ts_h (b o k c : Nat) (hk : k ≤ 8) (hc : 8 ≤ c) (W : World) : (Instr.sliceAt 35 (.slice (some ⟨b, o, none⟩) 8 c) none (some (.int .i64 (k : Int))) none).run Tryd.prog W = .ok (.slice (some ⟨b, o, none⟩) k c) W := by
  rw [run_sliceAt_slice W 35 _ _ _ _ underS, run_slice_h W 35 _ 8 c underS .i64 (k : Int) (by omega) (by omega), elemS, sizeS]
  have : ¬ c = 0 := by omega
  simp [Result.andThen, sliced, this, Addr.add]
theorem ts_l (b o l c : Nat) (hl : l ≤ 8) (_hc : 8 ≤ c) (W : World) : (Instr.sliceAt 35 (.slice (some ⟨b, o, none⟩) 8 c) (some (.int .i64 (l : Int))) none none).run Tryd.prog W = .ok (.slice (some ⟨b, offc o l c, none⟩) (8 - l) (c - l)) W := by
  rw [run_sliceAt_slice W 35 _ _ _ _ underS, run_slice_l W 35 _ 8 c underS .i64 (l : Int) (by omega) (by omega), elemS, sizeS]
  unfold offc
  by_cases h : c = l
  · simp [Result.andThen, sliced, h]
  · simp [Result.andThen, sliced, h, Addr.add]
theorem ts_sum (b o k n c : Nat) (hl : k + n ≤ 8) (hc : 8 ≤ c) (W : World) : (Instr.sliceAt 35 (.slice (some ⟨b, o, none⟩) 8 c) (some (.int .i64 ((k : Int) + (n : Int)))) none none).run Tryd.prog W = .ok (.slice (some ⟨b, offc o (k + n) c, none⟩) (8 - (k + n)) (c - (k + n))) W := by
  have := ts_l b o (k + n) c hl hc W
  rw [show ((k + n : Nat) : Int) = (k : Int) + (n : Int) by simp] at this
  exact this
theorem dl_bs_map (ps : List (List UInt8)) : (ps.map bs).map dl = ps := by
  rw [List.map_map]
  exact (List.map_congr_left fun p _ => bs_data p).trans (List.map_id ps)
/-- the texts are laid there -/
def TRow (w : World) (b o : Nat) (ps : List (List UInt8)) : Prop := b < w.heap.size ∧ ∀ (j : Nat) y, (ps.map bs)[j]? = some y → w.cell? ⟨b, o + j, none⟩ = some (.string y)
theorem TRow.go {w w' : World} {b o : Nat} {ps : List (List UInt8)} (h : TRow w b o ps) (hB : Below w.heap.size w w') : TRow w' b o ps :=
  ⟨Nat.lt_of_lt_of_le h.1 hB.size, fun j y hy => cell_go (h.2 j y hy) (Nat.le_refl _) hB⟩
theorem TRow.take {w : World} {b o : Nat} {ps : List (List UInt8)} (h : TRow w b o ps) (k : Nat) : TRow w b o (ps.take k) :=
  ⟨h.1, fun j y hy => h.2 j y (by
    rw [List.map_take, List.getElem?_take] at hy
    split at hy
    · exact hy
    · simp at hy)⟩
theorem TRow.dropc {w : World} {b o : Nat} {ps : List (List UInt8)} (h : TRow w b o ps) (l c : Nat) (hl : ps.length ≤ c) : TRow w b (offc o l c) (ps.drop l) :=
  ⟨h.1, fun j y hy => by
    rw [List.map_drop, List.getElem?_drop] at hy
    have hj := (List.getElem?_eq_some_iff.1 hy).1
    rw [List.length_map] at hj
    have := h.2 (l + j) y hy
    unfold offc
    rw [if_neg (by omega), Nat.add_assoc]
    exact this⟩
theorem TRow.join {w : World} {b o n c : Nat} {ps : List (List UInt8)} (h : TRow w b o ps) (hn : ps.length = n) (hn8 : n ≤ 1000) (hc : n ≤ c) (hl : (jn ps).length ≤ 1000000) : Calls Tryd.prog 19 #[.slice (some ⟨b, o, none⟩) n c, .string ⟨#[58]⟩] w (Texts (jn ps) w) := by
  have := JoinAt b o n c (ps.map bs) w (by rw [List.length_map, hn]) h.2 h.1 hn8 hc (by rw [dl_bs_map]; exact hl)
  rwa [dl_bs_map] at this
theorem TRow.of_own {w : World} {B b0 size n m c : Nat} {A : Option Addr} {ps : List (List UInt8)} (h : w.ownsRow B b0 size (.slice A m c) n (sc (ps.map bs))) (hn : ps.length = n) (h0 : 0 < n) : ∃ b o, A = some ⟨b, o, none⟩ ∧ n ≤ c ∧ TRow w b o ps := by
  obtain ⟨b, o, rfl, hb, hc, hx⟩ := own_cells h (by rw [List.length_map, hn]) h0
  exact ⟨b, o, rfl, hc, hb, hx⟩
/-- eight pieces written out, as a row of texts -/
theorem full_row (x zs : List Nat) (h8 : x.length = 8) (h16 : ∀ m ∈ x, m < 65536) (hzs : ∀ z ∈ zs, z < 256) (A : Option Addr) (n c : Nat) (w : World) (hn : zs.length = n) (hn63 : n ≤ 9223372036854775807) (hr : Row w w.heap.size A (cb zs)) (hE : Env w) :
    Calls Tryd.prog 17 #[av x, .slice A n c] w (fun e w' => ∃ b o c', e = .returned (.slice (some ⟨b, o, none⟩) 8 c') ∧ Hid (8 ≤ c') ∧ Hid (TRow w' b o (fl x zs 8)) ∧ Below w.heap.size w w') :=
  (full_any x zs h8 h16 hzs A n c w hn hn63 hr hE).mono fun e w' ⟨A', c', he, hO, hB⟩ => by
    obtain ⟨b, o, rfl, hc, hT⟩ := TRow.of_own hO (fl_len _ _ _) (by decide)
    exact ⟨b, o, c', he, Lib.hid hc, Lib.hid hT, hB⟩
theorem fl_hx {x : List Nat} (h8 : x.length = 8) : fl x [] 8 = hx x := by
  obtain ⟨a, b, c, d, e, f, g, i, rfl⟩ := eight h8
  unfold fl
  simp only [nk, List.getD_nil, nht_zero]
  rfl
end Go.Proofs.YtcoppicieicikaaDoor.Sx
