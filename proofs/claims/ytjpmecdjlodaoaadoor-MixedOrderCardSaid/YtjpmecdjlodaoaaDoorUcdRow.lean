import Derived.Test.YtjpmecdjlodaoaaDoorUcdNum2
import Derived.Test.YtjpmecdjlodaoaaDoorUcdNamesMath
import Derived.Test.YtjpmecdjlodaoaaDoorUcdText
/-
  The contracts of ucd's switches over names.
-/
namespace Go.Proofs.YtjpmecdjlodaoaaDoor
open Go.RowKit Ucd

set_option maxRecDepth 100000 in
set_option maxHeartbeats 1000000 in
theorem category_any (l : List UInt8) (w : World) : Calls Tryd.prog 45 #[.string (bst l)] w fun e w' => e = .returned (.int .u8 (categoryF l : Nat)) ∧ w = w' := by
  go_enter Tryd.func45, Tryd.ntmps45
  go_wp2
  all_goals go_ret
  all_goals exact ⟨by simp only [categoryF, *, if_true, if_false, Bool.false_eq_true]; rfl, rfl⟩

set_option maxRecDepth 100000 in
set_option maxHeartbeats 1000000 in
theorem explicit_any (l : List UInt8) (w : World) : Calls Tryd.prog 60 #[.string (bst l)] w fun e w' => e = .returned (.int .u8 (explicitF l : Nat)) ∧ w = w' := by
  go_enter Tryd.func60, Tryd.ntmps60
  go_wp2
  all_goals go_ret
  all_goals exact ⟨by simp only [explicitF, *, if_true, if_false, Bool.false_eq_true]; rfl, rfl⟩

set_option maxRecDepth 100000 in
set_option maxHeartbeats 1000000 in
theorem bidi_any (l : List UInt8) (w : World) : Calls Tryd.prog 47 #[.string (bst l)] w fun e w' => e = .returned (.int .u8 (bidiF l : Nat)) ∧ w = w' := by
  go_enter Tryd.func47, Tryd.ntmps47
  go_wp2_with (go_at_call 60; refine (explicit_any l _).mono ?_; rintro e w' ⟨rfl, rfl⟩)
  all_goals go_ret
  all_goals exact ⟨by simp only [bidiF, *, if_true, if_false, Bool.false_eq_true]; rfl, rfl⟩

set_option maxRecDepth 100000 in
set_option maxHeartbeats 1000000 in
theorem join_any (l : List UInt8) (w : World) : Calls Tryd.prog 48 #[.string (bst l)] w fun e w' => e = .returned (.int .u8 (joinF l : Nat)) ∧ w = w' := by
  go_enter Tryd.func48, Tryd.ntmps48
  go_wp2
  all_goals go_ret
  all_goals exact ⟨by simp only [joinF, *, if_true, if_false, Bool.false_eq_true]; rfl, rfl⟩

set_option maxRecDepth 100000 in
set_option maxHeartbeats 1000000 in
theorem script_any (l : List UInt8) (w : World) : Calls Tryd.prog 49 #[.string (bst l)] w fun e w' => e = .returned (.int .u8 (scriptF l : Nat)) ∧ w = w' := by
  go_enter Tryd.func49, Tryd.ntmps49
  go_wp2
  all_goals go_ret
  all_goals exact ⟨by simp only [scriptF, *, if_true, if_false, Bool.false_eq_true]; rfl, rfl⟩

set_option maxRecDepth 100000 in
set_option maxHeartbeats 1000000 in
theorem digits_any (l : List UInt8) (w : World) : Calls Tryd.prog 50 #[.string (bst l)] w fun e w' => e = .returned (.int .u8 (digitsF l : Nat)) ∧ w = w' := by
  go_enter Tryd.func50, Tryd.ntmps50
  go_wp2
  all_goals go_ret
  all_goals exact ⟨by simp only [digitsF, *, if_true, if_false, Bool.false_eq_true]; rfl, rfl⟩

end Go.Proofs.YtjpmecdjlodaoaaDoor

/-
  The contract of ucd.row: the text of a row of the table.
-/
namespace Go.Proofs.YtjpmecdjlodaoaaDoor
open Go.RowKit Ucd

/-- ucd.row with whatever text in the table's place -/
def rowFn (T : ByteArray) : Go.Func :=
{ name := "fascia/ucd.row", origin := "", params := #[3], resultTypes := #[9], nfree := 0, ntmps := 9,
  results := #[Go.ResultVar.tmp 2],
  body :=
    some
      ((Go.Code.region 0
            #[{ dst := some 2, op := Go.Op.assign (Go.Operand.const (Go.Value.string { data := #[] })), type := 9,
                pos := "row.go:11", after := #[], guard := none }]
            false).seq
        ((Go.Code.region 1
              #[{ dst := some 3, op := Go.Op.move (Go.Operand.tmp 0), type := 3, pos := "row.go:12", after := #[],
                  guard := none },
                { dst := some 4,
                  op :=
                    Go.Op.binOp Go.BinOp.mul 3 (Go.Operand.tmp 3) (Go.Operand.const (Go.Value.int Go.IntKind.i64 52)) 3,
                  type := 3, pos := "row.go:12", after := #[{ on := 0, ground := Go.Ground.data }], guard := none },
                { dst := some 5, op := Go.Op.move (Go.Operand.tmp 0), type := 3, pos := "row.go:12", after := #[],
                  guard := none },
                { dst := some 6,
                  op :=
                    Go.Op.binOp Go.BinOp.add 3 (Go.Operand.tmp 5) (Go.Operand.const (Go.Value.int Go.IntKind.i64 1)) 3,
                  type := 3, pos := "row.go:12", after := #[{ on := 2, ground := Go.Ground.data }], guard := none },
                { dst := some 7,
                  op :=
                    Go.Op.binOp Go.BinOp.mul 3 (Go.Operand.tmp 6) (Go.Operand.const (Go.Value.int Go.IntKind.i64 52)) 3,
                  type := 3, pos := "row.go:12", after := #[{ on := 3, ground := Go.Ground.data }], guard := none },
                { dst := some 8,
                  op :=
                    Go.Op.slice 9 (Go.Operand.const (Go.Value.string T))
                      (some (Go.Operand.tmp 4)) (some (Go.Operand.tmp 7)) none,
                  type := 9, pos := "row.go:12",
                  after := #[{ on := 1, ground := Go.Ground.data }, { on := 4, ground := Go.Ground.data }],
                  guard := none },
                { dst := some 2, op := Go.Op.assign (Go.Operand.tmp 8), type := 9, pos := "row.go:12",
                  after :=
                    #[{ on := 5, ground := Go.Ground.data }, { on := 0, ground := Go.Ground.phase },
                      { on := 1, ground := Go.Ground.phase }, { on := 2, ground := Go.Ground.phase },
                      { on := 3, ground := Go.Ground.phase }, { on := 4, ground := Go.Ground.phase },
                      { on := 5, ground := Go.Ground.phase }],
                  guard := none }]
              false).seq
          Go.Code.ret)),
  norace := false, file := "fascia/ucd/row.go", endLine := 13, tmpNames := #["i", "i", "", "", "", "", "", "", ""] }

theorem row_is : Tryd.f31 = rowFn (bst text.flat) := by kernel_rfl
theorem row_fn : Tryd.prog.funcs[31]? = some (rowFn (bst text.flat)) := by rw [Tryd.func31, row_is]
theorem rowFn_n (T : ByteArray) : (rowFn T).ntmps = 9 := rfl

set_option maxRecDepth 100000 in
set_option maxHeartbeats 400000 in
theorem row_gen (T : ByteArray) (hf : Tryd.prog.funcs[31]? = some (rowFn T)) (hT : T.size = 8632) (i : Nat) (w : World) (hi : i < 166) :
    Calls Tryd.prog 31 #[.int .i64 i] w fun e w' => e = .returned (.string (T.extract (i * 52) ((i + 1) * 52))) ∧ w = w' := by
  go_enter hf, rowFn_n T
  go_wp2
  go_ret
  exact ⟨rfl, rfl⟩

theorem row_any (i : Nat) (w : World) (hi : i < 166) : Calls Tryd.prog 31 #[.int .i64 i] w fun e w' => e = .returned (.string (bst (rowL i))) ∧ w = w' := by
  have h := row_gen _ row_fn (by rw [bst_size, flat_len]; rfl) i w hi
  rw [Lib.extract_mk, show (i + 1) * 52 - i * 52 = 52 from by omega, row_at i hi] at h
  exact h

end Go.Proofs.YtjpmecdjlodaoaaDoor
