/-
  The table of the sixty-four, out of the row's condition; an array of four bytes as it is read.
-/
import Derived.Test.YtpmdecdjlegcnaaDoorFourX
import Derived.Test.YtpmdecdjlegcnaaDoorFourP
import Derived.WideKeyArr2
namespace Go.Proofs.YtpmdecdjlegcnaaDoor.Fou
open Go.RowKit

def bruL : List Int := Lib.deBruijn64tab.map Int.ofNat
theorem bru_gn : Tryd.prog.globalNamed "math/bits.deBruijn64tab" = some 6 := by kernel_rfl
theorem bru_gt : (Tryd.prog.globals[6]?).map (·.type) = some 129 := by kernel_rfl
theorem bru_ct : Tryd.prog.cellsOf 129 = 64 := by kernel_rfl
theorem bru_ce : Tryd.prog.cellsOf 5 = 1 := by kernel_rfl
theorem bru_datum : (Rows.laid_math_bits_deBruijn64tab : DataW Unit) = Lib.tabData .u8 bruL := by kernel_rfl
theorem cell_lt {W : World} {b i : Nat} {v : Value} (h : W.cell? ⟨b, i, none⟩ = some v) : b < W.heap.size := by
  rcases Nat.lt_or_ge b W.heap.size with h' | h'
  · exact h'
  · unfold World.cell? at h
    simp [Array.getElem?_eq_none h'] at h
theorem bru_of_reads {W : World} (h : Lib.VarReads Tryd.prog W "math/bits.deBruijn64tab" Rows.laid_math_bits_deBruijn64tab) : BruIs W := by
  obtain ⟨gv, t, cs, fuel, p, hg, ht, hv, hd⟩ := h
  obtain rfl := Option.some.inj (bru_gn.symm.trans hg)
  obtain rfl := Option.some.inj (bru_gt.symm.trans ht)
  rw [bru_datum] at hd
  have hcs := Lib.cells_of_tab Tryd.underlying129 Tryd.underlying5 bru_ce bru_ct hd
  have h7 : W.cell? ⟨6, 7, none⟩ = some (.int .u8 3) := by
    rw [World.var?_cell hg hv 7, ← Array.getElem?_toList, hcs]
    rfl
  have h15 : W.cell? ⟨6, 15, none⟩ = some (.int .u8 4) := by
    rw [World.var?_cell hg hv 15, ← Array.getElem?_toList, hcs]
    rfl
  exact ⟨h7, h15, cell_lt h7⟩
theorem arr4_key : WideMaps.ArrKey Tryd.prog 37 5 4 := ⟨Tryd.underlying37, by kernel_rfl, by kernel_rfl, by kernel_rfl⟩
theorem arr4_open {H : Type} {enc : TypeId × Value → H} {W : World} {base : Nat} {sp : Nat → Bool} {held : Bool} {xs : Array Value} (hn : xs.size = 4) {d : DataW H} {ps : List MemPlace} (hd : DataW.Trod enc Tryd.prog W base sp held 37 (.agg xs) d ps) :
    ps = [] ∧ ∃ a0 a1 a2 a3 : Int, xs = #[.int .u8 a0, .int .u8 a1, .int .u8 a2, .int .u8 a3] ∧ (0 ≤ a0 ∧ a0 ≤ 255) ∧ (0 ≤ a1 ∧ a1 ≤ 255) ∧ (0 ≤ a2 ∧ a2 ≤ 255) ∧ (0 ≤ a3 ∧ a3 ≤ 255) := by
  obtain ⟨ls, rfl, rfl, _⟩ := WideMaps.open_arr arr4_key Tryd.underlying5 ⟨Tryd.prog.types.size - 1, by kernel_rfl⟩ hn hd
  obtain ⟨fuel, hf⟩ := hd
  have key : ∀ i, i < 4 → ∃ a : Int, (xs.toList.drop i).take 1 = [.int .u8 a] ∧ 0 ≤ a ∧ a ≤ 255 := by
    intro i hi
    obtain ⟨fuel', d', q', h1, h2⟩ := Lib.array_elem Tryd.underlying37 hf i hi
    rw [bru_ce, Nat.mul_one] at h2
    obtain ⟨a, ea, _, wa⟩ := DataW.trod_int Tryd.underlying5 h2
    have b : 0 ≤ a ∧ a ≤ 255 := by simpa [Lit.wf, IntKind.min, IntKind.max, IntKind.signed, IntKind.bits] using wa
    exact ⟨a, ea, b⟩
  obtain ⟨l, rfl⟩ : ∃ l : List Value, xs = l.toArray := ⟨xs.toList, by simp⟩
  have hl : l.length = 4 := by simpa using hn
  clear hn hf
  obtain ⟨a0, e0, b0⟩ := key 0 (by decide)
  obtain ⟨a1, e1, b1⟩ := key 1 (by decide)
  obtain ⟨a2, e2, b2⟩ := key 2 (by decide)
  obtain ⟨a3, e3, b3⟩ := key 3 (by decide)
  clear key
  refine ⟨rfl, a0, a1, a2, a3, ?_, b0, b1, b2, b3⟩
  rcases l with _ | ⟨u0, _ | ⟨u1, _ | ⟨u2, _ | ⟨u3, _ | ⟨u4, t⟩⟩⟩⟩⟩
  · cases hl
  · cases hl
  · cases hl
  · cases hl
  · have f0 : [u0] = [Value.int .u8 a0] := e0
    have f1 : [u1] = [Value.int .u8 a1] := e1
    have f2 : [u2] = [Value.int .u8 a2] := e2
    have f3 : [u3] = [Value.int .u8 a3] := e3
    rw [List.singleton_inj.1 f0, List.singleton_inj.1 f1, List.singleton_inj.1 f2, List.singleton_inj.1 f3]
  · simp only [List.length_cons] at hl
    omega
end Go.Proofs.YtpmdecdjlegcnaaDoor.Fou
