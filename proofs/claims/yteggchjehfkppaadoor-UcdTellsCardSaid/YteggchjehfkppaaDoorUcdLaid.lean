/-
  What the variable of the brackets holds where it reads as it is laid.
-/
import Derived.Test.YteggchjehfkppaaDoorUcdBracket
import Derived.Lib.LaidU8
namespace Go.Proofs.YteggchjehfkppaaDoor
open Go.RowKit Ucd

theorem br_gn : Tryd.prog.globalNamed "fascia/ucd.brackets" = some 0 := by kernel_rfl
theorem br_gt : (Tryd.prog.globals[0]?).map (·.type) = some 52 := by kernel_rfl
theorem br_c2 : Tryd.prog.cellsOf 51 = 2 := by kernel_rfl
theorem br_c1 : Tryd.prog.cellsOf 21 = 1 := by kernel_rfl

theorem brIs_of_reads {W : World} (h : Lib.VarReads Tryd.prog W "fascia/ucd.brackets" Rows.laid_fascia_ucd_brackets) : BrIs W := by
  obtain ⟨gv, t, cs, fuel, p, hg, ht, hv, hd⟩ := h
  obtain rfl := Option.some.inj (br_gn.symm.trans hg)
  obtain rfl := Option.some.inj (br_gt.symm.trans ht)
  have key : ∀ i, i < 7 → (cs.toList.drop (i * 2)).take 2 = [Value.int .i32 (brl.getD (i * 2) 0), .int .i32 (brl.getD (i * 2 + 1) 0)] := by
    intro i hi
    obtain ⟨fuel', d, q, h1, h2⟩ := Lib.array_elem Tryd.underlying52 hd i hi
    rw [br_c2] at h2
    have hdd : d = Lib.tabData .i32 [brl.getD (i * 2) 0, brl.getD (i * 2 + 1) 0] := by
      have : i = 0 ∨ i = 1 ∨ i = 2 ∨ i = 3 ∨ i = 4 ∨ i = 5 ∨ i = 6 := by omega
      rcases this with rfl | rfl | rfl | rfl | rfl | rfl | rfl <;> exact (Option.some.inj h1).symm
    rw [hdd] at h2
    exact Lib.cells_of_tab Tryd.underlying51 Tryd.underlying21 br_c1 br_c2 h2
  intro k hk
  rw [World.var?_cell hg hv k]
  have h2 := key (k / 2) (by omega)
  have h3 : (cs.toList.drop (k / 2 * 2)).take 2 = _ := h2
  have h4 := congrArg (fun l => l[k % 2]?) h3
  simp only [List.getElem?_take, List.getElem?_drop] at h4
  rw [if_pos (by omega), show k / 2 * 2 + k % 2 = k from by omega] at h4
  rw [Array.getElem?_toList] at h4
  rw [h4]
  have : k % 2 = 0 ∨ k % 2 = 1 := by omega
  rcases this with e | e
  · rw [e]
    simp only [List.getElem?_cons_zero]
    rw [show k / 2 * 2 = k from by omega]
  · rw [e]
    simp only [List.getElem?_cons_succ, List.getElem?_cons_zero]
    rw [show k / 2 * 2 + 1 = k from by omega]

end Go.Proofs.YteggchjehfkppaaDoor
