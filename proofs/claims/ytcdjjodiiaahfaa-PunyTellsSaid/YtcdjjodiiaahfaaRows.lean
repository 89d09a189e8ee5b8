/-
  No cell of these rows narrows 'for every input' (looked for: loops, veiled, ifaces, maps, wideKeys, modest, calm, conditions, laid).
  DERIVED. THE GIVEN ROWS OF THIS SEAT. 5 by the template 'for every input the law returns true; each argument reads behind the call as it read before'; 0 by the template 'total and deterministic' (their statements: YtcdjjodiiaahfaaTotals.lean).
  GIVEN WITH THE SEED: the statements are not yours to turn. If you find one false, say at which input.
  Laid BY PROGRAM, IN A SANDBOX (cutbox-rows.mjs): the forced cells as the released guide's own fill.sh prints them over the translation 20e167a0452faf08… (all of the seat's roots in one cut). By AI agents, Wed Nov 11 2026. No macro, syntax, notation, axiom, sorry.
-/
import Derived.Test.YtcdjjodiiaahfaaChecked
import GoSem.Claim
import GoSem.ClaimJoined
import GoSem.ClaimMapViews
import Derived.JoinedTies
import Derived.KernelRfl
namespace Go.Proofs.Ytcdjjodiiaahfaa
/- THE CELL 'sum', in the pinned program and in every row, IS THE sha256 OF THE DUMP (.gsa) THAT YtcdjjodiiaahfaaProg.lean LOADS. Nothing in Lean hashes anything: it is a label: what it is worth is what the hold of that sum in a sandbox is worth. -/
noncomputable def Try.pinned : Pinned := { name := "ytcdjjodiiaahfaa", sum := "20e167a0452faf0895d448b18d2c11af432eac68fef61acbe792bae71e115a12", checked := Try.checked }
namespace Rows
def none {H : Type} : Left H := { results := [], args := [] }

/-- 'fascialaw04.PunyTells': WHATEVER THE INPUT: true; the input reads as it did. -/
def punyTellsSpec : ChangeSpec := { name := "punyTells", fn := fun _ => fun
  | [d1, d2] => { results := [.lit (.bool true)], args := [d1, d2] }
  | _ => none }
def punyTellsRow : OpenClaim := { program := "ytcdjjodiiaahfaa", sum := "20e167a0452faf0895d448b18d2c11af432eac68fef61acbe792bae71e115a12", func := "fascia/fascialaw04.PunyTells", spec := "punyTells", inPlace := ["internal/bytealg.IndexByteString", "slices.overlaps[rune]"], unfollowed := true, recurses := true, apart := false }
def PunyTellsSaid : Prop := punyTellsRow.holds Try.pinned (OpenSpec.ofChange punyTellsSpec)

/-- ITS FALSE NEIGHBOUR: 'it returns false'. Refute it at one input. -/
def punyTellsWrong : ChangeSpec := { name := "punyTells", fn := fun _ => fun
  | [d1, d2] => { results := [.lit (.bool false)], args := [d1, d2] }
  | _ => none }
def PunyTellsWrongFalsely : Prop := punyTellsRow.holds Try.pinned (OpenSpec.ofChange punyTellsWrong)

/-- 'fascialaw04.PunyBack': WHATEVER THE INPUT: true; the input reads as it did. -/
def punyBackSpec : ChangeSpec := { name := "punyBack", fn := fun _ => fun
  | [d1, d2, d3] => { results := [.lit (.bool true)], args := [d1, d2, d3] }
  | _ => none }
def punyBackRow : OpenClaim := { program := "ytcdjjodiiaahfaa", sum := "20e167a0452faf0895d448b18d2c11af432eac68fef61acbe792bae71e115a12", func := "fascia/fascialaw04.PunyBack", spec := "punyBack", inPlace := ["internal/bytealg.IndexByteString", "slices.overlaps[rune]"], unfollowed := true, recurses := true, apart := false }
def PunyBackSaid : Prop := punyBackRow.holds Try.pinned (OpenSpec.ofChange punyBackSpec)

/-- ITS FALSE NEIGHBOUR: 'it returns false'. Refute it at one input. -/
def punyBackWrong : ChangeSpec := { name := "punyBack", fn := fun _ => fun
  | [d1, d2, d3] => { results := [.lit (.bool false)], args := [d1, d2, d3] }
  | _ => none }
def PunyBackWrongFalsely : Prop := punyBackRow.holds Try.pinned (OpenSpec.ofChange punyBackWrong)

/-- 'fascialaw04.PunyPlain': WHATEVER THE INPUT: true; the input reads as it did. -/
def punyPlainSpec : ChangeSpec := { name := "punyPlain", fn := fun _ => fun
  | [d] => { results := [.lit (.bool true)], args := [d] }
  | _ => none }
def punyPlainRow : OpenClaim := { program := "ytcdjjodiiaahfaa", sum := "20e167a0452faf0895d448b18d2c11af432eac68fef61acbe792bae71e115a12", func := "fascia/fascialaw04.PunyPlain", spec := "punyPlain", inPlace := ["internal/bytealg.IndexByteString", "slices.overlaps[rune]"], unfollowed := true, recurses := true, apart := false }
def PunyPlainSaid : Prop := punyPlainRow.holds Try.pinned (OpenSpec.ofChange punyPlainSpec)

/-- ITS FALSE NEIGHBOUR: 'it returns false'. Refute it at one input. -/
def punyPlainWrong : ChangeSpec := { name := "punyPlain", fn := fun _ => fun
  | [d] => { results := [.lit (.bool false)], args := [d] }
  | _ => none }
def PunyPlainWrongFalsely : Prop := punyPlainRow.holds Try.pinned (OpenSpec.ofChange punyPlainWrong)

/-- 'fascialaw04.PunyCut': WHATEVER THE INPUT: true; the input reads as it did. -/
def punyCutSpec : ChangeSpec := { name := "punyCut", fn := fun _ => fun
  | [d1, d2, d3] => { results := [.lit (.bool true)], args := [d1, d2, d3] }
  | _ => none }
def punyCutRow : OpenClaim := { program := "ytcdjjodiiaahfaa", sum := "20e167a0452faf0895d448b18d2c11af432eac68fef61acbe792bae71e115a12", func := "fascia/fascialaw04.PunyCut", spec := "punyCut", inPlace := ["internal/bytealg.IndexByteString", "slices.overlaps[rune]"], unfollowed := true, recurses := true, apart := false }
def PunyCutSaid : Prop := punyCutRow.holds Try.pinned (OpenSpec.ofChange punyCutSpec)

/-- ITS FALSE NEIGHBOUR: 'it returns false'. Refute it at one input. -/
def punyCutWrong : ChangeSpec := { name := "punyCut", fn := fun _ => fun
  | [d1, d2, d3] => { results := [.lit (.bool false)], args := [d1, d2, d3] }
  | _ => none }
def PunyCutWrongFalsely : Prop := punyCutRow.holds Try.pinned (OpenSpec.ofChange punyCutWrong)

/-- 'fascialaw04.PunyGreat': WHATEVER THE INPUT: true; the input reads as it did. -/
def punyGreatSpec : ChangeSpec := { name := "punyGreat", fn := fun _ => fun
  | [d1, d2] => { results := [.lit (.bool true)], args := [d1, d2] }
  | _ => none }
def punyGreatRow : OpenClaim := { program := "ytcdjjodiiaahfaa", sum := "20e167a0452faf0895d448b18d2c11af432eac68fef61acbe792bae71e115a12", func := "fascia/fascialaw04.PunyGreat", spec := "punyGreat", inPlace := ["internal/abi.NoEscape", "internal/bytealg.MakeNoZero", "internal/bytealg.IndexByteString", "slices.overlaps[rune]"], unfollowed := true, recurses := true, apart := false }
def PunyGreatSaid : Prop := punyGreatRow.holds Try.pinned (OpenSpec.ofChange punyGreatSpec)

/-- ITS FALSE NEIGHBOUR: 'it returns false'. Refute it at one input. -/
def punyGreatWrong : ChangeSpec := { name := "punyGreat", fn := fun _ => fun
  | [d1, d2] => { results := [.lit (.bool false)], args := [d1, d2] }
  | _ => none }
def PunyGreatWrongFalsely : Prop := punyGreatRow.holds Try.pinned (OpenSpec.ofChange punyGreatWrong)

/- THE SECOND FORM. 'bulk': how many values and letters a reading holds, each counted each time it is reached (what is shared counts as often as it is met; a slice's spare places count too). A statement '..UptoSaid' is the law's where the arguments, and the package variables that the reading takes, are together of bulk at most 1048576: NARROWER than '..Said'. Prove '..Said' where nothing that the law and all that it calls make is longer than what came in: it says more and counts as full. Else prove '..UptoSaid'. A law counts once. -/
mutual
def uptoBulk {H : Type} : DataW H → Nat
  | .lit (.string bytes) => bytes.length + 1
  | .lit _ => 1
  | .nil => 1
  | .ptr d => uptoBulk d + 1
  | .slice elems spare => uptoBulkAll elems + uptoBulkAll spare + 1
  | .agg parts => uptoBulkAll parts + 1
  | .iface _ d => uptoBulk d + 1
  | .map entries => uptoBulkEntries entries + 1
  | .held _ => 1
def uptoBulkAll {H : Type} : List (DataW H) → Nat
  | [] => 0
  | d :: r => uptoBulk d + uptoBulkAll r
def uptoBulkEntries {H : Type} : List (Lit × DataW H) → Nat
  | [] => 0
  | x :: r => uptoBulkEntry x + uptoBulkEntries r
def uptoBulkEntry {H : Type} : Lit × DataW H → Nat
  | (.string bytes, d) => bytes.length + uptoBulk d + 1
  | (_, d) => uptoBulk d + 1
 end
def uptoSmall : (H : Type) → List (DataW H) → Bool := fun _ ds => decide (uptoBulkAll ds ≤ 1048576)
def OpenSpec.upto (s : _root_.Go.ChangeSpec) : _root_.Go.OpenSpec := { _root_.Go.OpenSpec.ofChange s with cond := some uptoSmall }

/-- 'fascialaw04.PunyTells', WHERE WHAT IT READS IS OF BULK AT MOST 1048576: true; the input reads as it did. -/
def punyTellsUptoRow : OpenClaim := { program := "ytcdjjodiiaahfaa", sum := "20e167a0452faf0895d448b18d2c11af432eac68fef61acbe792bae71e115a12", func := "fascia/fascialaw04.PunyTells", spec := "punyTells", inPlace := ["internal/bytealg.IndexByteString", "slices.overlaps[rune]"], unfollowed := true, recurses := true, apart := false, narrowed := true }
def PunyTellsUptoSaid : Prop := punyTellsUptoRow.holds Try.pinned (OpenSpec.upto punyTellsSpec)

/-- 'fascialaw04.PunyBack', WHERE WHAT IT READS IS OF BULK AT MOST 1048576: true; the input reads as it did. -/
def punyBackUptoRow : OpenClaim := { program := "ytcdjjodiiaahfaa", sum := "20e167a0452faf0895d448b18d2c11af432eac68fef61acbe792bae71e115a12", func := "fascia/fascialaw04.PunyBack", spec := "punyBack", inPlace := ["internal/bytealg.IndexByteString", "slices.overlaps[rune]"], unfollowed := true, recurses := true, apart := false, narrowed := true }
def PunyBackUptoSaid : Prop := punyBackUptoRow.holds Try.pinned (OpenSpec.upto punyBackSpec)

/-- 'fascialaw04.PunyPlain', WHERE WHAT IT READS IS OF BULK AT MOST 1048576: true; the input reads as it did. -/
def punyPlainUptoRow : OpenClaim := { program := "ytcdjjodiiaahfaa", sum := "20e167a0452faf0895d448b18d2c11af432eac68fef61acbe792bae71e115a12", func := "fascia/fascialaw04.PunyPlain", spec := "punyPlain", inPlace := ["internal/bytealg.IndexByteString", "slices.overlaps[rune]"], unfollowed := true, recurses := true, apart := false, narrowed := true }
def PunyPlainUptoSaid : Prop := punyPlainUptoRow.holds Try.pinned (OpenSpec.upto punyPlainSpec)

/-- 'fascialaw04.PunyCut', WHERE WHAT IT READS IS OF BULK AT MOST 1048576: true; the input reads as it did. -/
def punyCutUptoRow : OpenClaim := { program := "ytcdjjodiiaahfaa", sum := "20e167a0452faf0895d448b18d2c11af432eac68fef61acbe792bae71e115a12", func := "fascia/fascialaw04.PunyCut", spec := "punyCut", inPlace := ["internal/bytealg.IndexByteString", "slices.overlaps[rune]"], unfollowed := true, recurses := true, apart := false, narrowed := true }
def PunyCutUptoSaid : Prop := punyCutUptoRow.holds Try.pinned (OpenSpec.upto punyCutSpec)

/-- 'fascialaw04.PunyGreat', WHERE WHAT IT READS IS OF BULK AT MOST 1048576: true; the input reads as it did. -/
def punyGreatUptoRow : OpenClaim := { program := "ytcdjjodiiaahfaa", sum := "20e167a0452faf0895d448b18d2c11af432eac68fef61acbe792bae71e115a12", func := "fascia/fascialaw04.PunyGreat", spec := "punyGreat", inPlace := ["internal/abi.NoEscape", "internal/bytealg.MakeNoZero", "internal/bytealg.IndexByteString", "slices.overlaps[rune]"], unfollowed := true, recurses := true, apart := false, narrowed := true }
def PunyGreatUptoSaid : Prop := punyGreatUptoRow.holds Try.pinned (OpenSpec.upto punyGreatSpec)

end Rows
end Go.Proofs.Ytcdjjodiiaahfaa
