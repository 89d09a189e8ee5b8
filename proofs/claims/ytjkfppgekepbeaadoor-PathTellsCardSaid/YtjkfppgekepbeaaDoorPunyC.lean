/-
  Contracts of strings.IndexByte at the digits, puny.number.
-/
import Derived.Test.YtjkfppgekepbeaaDoorPunyB
import Derived.Lib.Bytealg
namespace Go.Proofs.YtjkfppgekepbeaaDoor.Pn
set_option maxRecDepth 100000
open Go.RowKit Puny

theorem IndexByte1_any (s : ByteArray) (c : Int) (w : World) :
    Calls Tryd.prog 74 #[.string s, .int .u8 c] w fun e w' => e = .returned (.int .i64 (Lib.indexByte s.data.toList c.toNat.toUInt8)) ∧ w = w' := by
  go_enter Tryd.func74, Tryd.ntmps74
  go_wp2
  rw [run_callFunc_extern Tryd.func88 (by kernel_rfl) (by kernel_rfl) (by kernel_rfl) (e := Extern.BytealgIndexByte.indexByte) (by kernel_rfl), Lib.run_indexByteString]
  simp only [Result.andThen]
  rw [Oper.upon_value]
  go_wp2
  go_ret
  exact ⟨rfl, rfl⟩
theorem IndexByte_any (s : ByteArray) (c : Int) (w : World) :
    Calls Tryd.prog 95 #[.string s, .int .u8 c] w fun e w' => e = .returned (.int .i64 (Lib.indexByte s.data.toList c.toNat.toUInt8)) ∧ w = w' := by
  go_enter Tryd.func95, Tryd.ntmps95
  go_wp2_with (first | (go_at_call 74; refine (IndexByte1_any _ _ _).mono ?_; rintro e w' ⟨rfl, rfl⟩) | fail)
  go_ret
  exact ⟨rfl, rfl⟩

theorem ixb_none {l : List UInt8} {c : UInt8} (h : c ∉ l) : Lib.indexByte l c = -1 := by
  induction l with
  | nil => rfl
  | cons b l ih =>
    simp at h
    unfold Lib.indexByte
    rw [if_neg (by simpa using fun e => h.1 e.symm), ih h.2]
    rfl

/-- where the digits' row has a sign -/
theorem ixb_alpha (c : UInt8) : Lib.indexByte alpha.data.toList c = match worth c with | some d => (d : Int) | none => -1 := by
  have h : ∀ n : Fin 256, Lib.indexByte alpha.data.toList (UInt8.ofNat n.1) = match worth (UInt8.ofNat n.1) with | some d => (d : Int) | none => -1 := by decide +kernel
  have := h ⟨c.toNat, c.toNat_lt⟩
  simpa using this

/-- the digit of a sign that came in, or -1 -/
def dig (x : Int) : Int := match worth x.toNat.toUInt8 with | some d => (d : Int) | none => -1

theorem IndexByte_dig (c : Int) (w : World) :
    Calls Tryd.prog 95 #[.string { data := #[97, 98, 99, 100, 101, 102, 103, 104, 105, 106, 107, 108, 109, 110, 111, 112, 113, 114, 115, 116, 117, 118, 119, 120, 121, 122, 48, 49, 50, 51, 52, 53, 54, 55, 56, 57] }, .int .u8 c] w
      fun e w' => e = .returned (.int .i64 (dig c)) ∧ w = w' := by
  have h := IndexByte_any alpha c w
  rw [ixb_alpha] at h
  exact h
end Go.Proofs.YtjkfppgekepbeaaDoor.Pn
