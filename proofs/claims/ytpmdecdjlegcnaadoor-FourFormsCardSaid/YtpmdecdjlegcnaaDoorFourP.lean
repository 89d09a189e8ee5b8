/-
  The powers of ten, out of the row's condition.
-/
import Derived.Test.YtpmdecdjlegcnaaDoorFourL
import Derived.Test.YtpmdecdjlegcnaaDoorRows
import Derived.Lib.LaidTab
import Derived.Lib.LaidU8
namespace Go.Proofs.YtpmdecdjlegcnaaDoor.Fou
open Go.RowKit

theorem pow_gn : Tryd.prog.globalNamed "internal/strconv.uint64pow10" = some 1 := by kernel_rfl
theorem pow_gt : (Tryd.prog.globals[1]?).map (·.type) = some 109 := by kernel_rfl
theorem pow_ct : Tryd.prog.cellsOf 109 = 20 := by kernel_rfl
theorem pow_ce : Tryd.prog.cellsOf 24 = 1 := by kernel_rfl
theorem pow_datum : (Rows.laid_internal_strconv_uint64pow10 : DataW Unit) = Lib.tabData .u64 Lib.pow10Tab := by kernel_rfl
theorem powIs_of_reads {W : World} (h : Lib.VarReads Tryd.prog W "internal/strconv.uint64pow10" Rows.laid_internal_strconv_uint64pow10) : PowIs W := by
  obtain ⟨gv, t, cs, fuel, p, hg, ht, hv, hd⟩ := h
  obtain rfl := Option.some.inj (pow_gn.symm.trans hg)
  obtain rfl := Option.some.inj (pow_gt.symm.trans ht)
  rw [pow_datum] at hd
  unfold PowIs Lib.TabIs
  rw [hv, ← Lib.cells_of_tab Tryd.underlying109 Tryd.underlying24 pow_ce pow_ct hd]
end Go.Proofs.YtpmdecdjlegcnaaDoor.Fou
