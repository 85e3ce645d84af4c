/-
  NARROWER THAN 'FOR EVERY INPUT', by the rows' own cells (each row's printed sentence says how): SyntaxModules: laid · SyntaxFragments: laid · SyntaxShapes: loops, laid · SyntaxLooks: loops, laid · SyntaxNested: laid · SyntaxPieces: laid · SyntaxBlanks: laid.
  DERIVED. THE GIVEN ROWS OF THIS SEAT. 7 by the template 'for every input the law returns true; each argument reads behind the call as it read before'; 0 by the template 'total and deterministic' (their statements: YtonoklmobocikaaGreatDoorTotals.lean).
  GIVEN WITH THE SEED: the statements are not yours to turn. If you find one false, say at which input.
  Laid BY PROGRAM, IN A SANDBOX (cutbox-rows.mjs): the forced cells as the released guide's own fill.sh prints them over the translation 706603f8e7746f1b… (all of the seat's roots in one cut). By AI agents, Wed Nov 11 2026. No macro, syntax, notation, axiom, sorry.
-/
import Derived.Test.YtonoklmobocikaaGreatDoorChecked
import GoSem.PinnedTables
import GoSem.Claim
import GoSem.ClaimJoined
import GoSem.ClaimMapViews
import Derived.JoinedTies
import Derived.KernelRfl
namespace Go.Proofs.YtonoklmobocikaaGreatDoor
/- THE CELL 'sum', in the pinned program and in every row, IS THE sha256 OF THE DUMP (.gsa) THAT YtonoklmobocikaaGreatDoorProg.lean LOADS. Nothing in Lean hashes anything: it is a label: what it is worth is what the hold of that sum in a sandbox is worth. -/
noncomputable def Tryz.pinned : Pinned := { name := "ytonoklmobocikaagreatdoor", sum := "706603f8e7746f1b5321aeee27468d84a1490488b20f29f57c03f12a44a35aaf", checked := Tryz.checked }
namespace Rows
def none {H : Type} : Left H := { results := [], args := [] }

/- WHAT THE LISTED PACKAGE-LEVEL VARIABLES READ AS WHEN THE CALL BEGINS. Each datum BY PROGRAM (the guide's laid-datum.mjs) off the statement by which the dump's own 'gosem.cut.vars' lays the variable. In a bare row this is a premise. The card (YtonoklmobocikaaGreatDoorCards.lean) ties it to the program's text. -/
def laid_unicode_utf8_acceptRanges {H : Type} : DataW H := .agg [.agg [.lit (.int .u8 128), .lit (.int .u8 191)], .agg [.lit (.int .u8 160), .lit (.int .u8 191)], .agg [.lit (.int .u8 128), .lit (.int .u8 159)], .agg [.lit (.int .u8 144), .lit (.int .u8 191)], .agg [.lit (.int .u8 128), .lit (.int .u8 143)], .agg [.lit (.int .u8 0), .lit (.int .u8 0)], .agg [.lit (.int .u8 0), .lit (.int .u8 0)], .agg [.lit (.int .u8 0), .lit (.int .u8 0)], .agg [.lit (.int .u8 0), .lit (.int .u8 0)], .agg [.lit (.int .u8 0), .lit (.int .u8 0)], .agg [.lit (.int .u8 0), .lit (.int .u8 0)], .agg [.lit (.int .u8 0), .lit (.int .u8 0)], .agg [.lit (.int .u8 0), .lit (.int .u8 0)], .agg [.lit (.int .u8 0), .lit (.int .u8 0)], .agg [.lit (.int .u8 0), .lit (.int .u8 0)], .agg [.lit (.int .u8 0), .lit (.int .u8 0)]]
/-- One of Go's own tables, pinned by name: the form's constant. -/
def laid_unicode_utf8_first : DataW Unit := Go.Pinned.utf8First

/-- 'codesearchlaw12.SyntaxModules': WHATEVER THE INPUT: true; the input reads as it did. -/
def syntaxModulesSpec : ChangeSpec := { name := "syntaxModules", fn := fun _ => fun
  | [d] => { results := [.lit (.bool true)], args := [d] }
  | _ => none }
def syntaxModulesRow : OpenClaim := { program := "ytonoklmobocikaagreatdoor", sum := "706603f8e7746f1b5321aeee27468d84a1490488b20f29f57c03f12a44a35aaf", func := "codesearch/codesearchlaw12.SyntaxModules", spec := "syntaxModules", inPlace := ["internal/bytealg.IndexByteString", "internal/bytealg.IndexString", "internal/abi.NoEscape", "internal/bytealg.MakeNoZero"], unfollowed := true, recurses := true, named := ["unicode/utf8.first", "unicode/utf8.acceptRanges", "internal/bytealg.MaxLen"], apart := false, laid := [("unicode/utf8.acceptRanges", laid_unicode_utf8_acceptRanges), ("unicode/utf8.first", laid_unicode_utf8_first)] }
def SyntaxModulesSaid : Prop := syntaxModulesRow.holds Tryz.pinned (OpenSpec.ofChange syntaxModulesSpec)

/-- ITS FALSE NEIGHBOUR: 'it returns false'. Refute it at one input. -/
def syntaxModulesWrong : ChangeSpec := { name := "syntaxModules", fn := fun _ => fun
  | [d] => { results := [.lit (.bool false)], args := [d] }
  | _ => none }
def SyntaxModulesWrongFalsely : Prop := syntaxModulesRow.holds Tryz.pinned (OpenSpec.ofChange syntaxModulesWrong)

/-- 'codesearchlaw12.SyntaxFragments': WHATEVER THE INPUT: true; the input reads as it did. -/
def syntaxFragmentsSpec : ChangeSpec := { name := "syntaxFragments", fn := fun _ => fun
  | [d1, d2] => { results := [.lit (.bool true)], args := [d1, d2] }
  | _ => none }
def syntaxFragmentsRow : OpenClaim := { program := "ytonoklmobocikaagreatdoor", sum := "706603f8e7746f1b5321aeee27468d84a1490488b20f29f57c03f12a44a35aaf", func := "codesearch/codesearchlaw12.SyntaxFragments", spec := "syntaxFragments", inPlace := ["internal/bytealg.IndexByteString", "internal/bytealg.IndexString", "internal/abi.NoEscape", "internal/bytealg.MakeNoZero"], unfollowed := true, recurses := true, named := ["unicode/utf8.first", "unicode/utf8.acceptRanges", "internal/bytealg.MaxLen"], apart := false, laid := [("unicode/utf8.acceptRanges", laid_unicode_utf8_acceptRanges), ("unicode/utf8.first", laid_unicode_utf8_first)] }
def SyntaxFragmentsSaid : Prop := syntaxFragmentsRow.holds Tryz.pinned (OpenSpec.ofChange syntaxFragmentsSpec)

/-- ITS FALSE NEIGHBOUR: 'it returns false'. Refute it at one input. -/
def syntaxFragmentsWrong : ChangeSpec := { name := "syntaxFragments", fn := fun _ => fun
  | [d1, d2] => { results := [.lit (.bool false)], args := [d1, d2] }
  | _ => none }
def SyntaxFragmentsWrongFalsely : Prop := syntaxFragmentsRow.holds Tryz.pinned (OpenSpec.ofChange syntaxFragmentsWrong)

/-- 'codesearchlaw12.SyntaxShapes': WHATEVER THE INPUT: true; the input reads as it did. -/
def syntaxShapesSpec : ChangeSpec := { name := "syntaxShapes", fn := fun _ => fun
  | [d1, d2] => { results := [.lit (.bool true)], args := [d1, d2] }
  | _ => none }
def syntaxShapesRow : OpenClaim := { program := "ytonoklmobocikaagreatdoor", sum := "706603f8e7746f1b5321aeee27468d84a1490488b20f29f57c03f12a44a35aaf", func := "codesearch/codesearchlaw12.SyntaxShapes", spec := "syntaxShapes", inPlace := ["internal/bytealg.IndexByteString", "internal/bytealg.IndexString", "internal/abi.NoEscape", "internal/bytealg.MakeNoZero"], unfollowed := true, recurses := true, named := ["unicode/utf8.first", "unicode/utf8.acceptRanges", "internal/bytealg.MaxLen"], loops := true, apart := false, laid := [("unicode/utf8.acceptRanges", laid_unicode_utf8_acceptRanges), ("unicode/utf8.first", laid_unicode_utf8_first)] }
def SyntaxShapesSaid : Prop := syntaxShapesRow.holds Tryz.pinned (OpenSpec.ofChange syntaxShapesSpec)

/-- ITS FALSE NEIGHBOUR: 'it returns false'. Refute it at one input. -/
def syntaxShapesWrong : ChangeSpec := { name := "syntaxShapes", fn := fun _ => fun
  | [d1, d2] => { results := [.lit (.bool false)], args := [d1, d2] }
  | _ => none }
def SyntaxShapesWrongFalsely : Prop := syntaxShapesRow.holds Tryz.pinned (OpenSpec.ofChange syntaxShapesWrong)

/-- 'codesearchlaw12.SyntaxLooks': WHATEVER THE INPUT: true; the input reads as it did. -/
def syntaxLooksSpec : ChangeSpec := { name := "syntaxLooks", fn := fun _ => fun
  | [d1, d2] => { results := [.lit (.bool true)], args := [d1, d2] }
  | _ => none }
def syntaxLooksRow : OpenClaim := { program := "ytonoklmobocikaagreatdoor", sum := "706603f8e7746f1b5321aeee27468d84a1490488b20f29f57c03f12a44a35aaf", func := "codesearch/codesearchlaw12.SyntaxLooks", spec := "syntaxLooks", inPlace := ["internal/bytealg.IndexByteString", "internal/bytealg.IndexString", "internal/abi.NoEscape", "internal/bytealg.MakeNoZero"], unfollowed := true, recurses := true, named := ["unicode/utf8.first", "unicode/utf8.acceptRanges", "internal/bytealg.MaxLen"], loops := true, apart := false, laid := [("unicode/utf8.acceptRanges", laid_unicode_utf8_acceptRanges), ("unicode/utf8.first", laid_unicode_utf8_first)] }
def SyntaxLooksSaid : Prop := syntaxLooksRow.holds Tryz.pinned (OpenSpec.ofChange syntaxLooksSpec)

/-- ITS FALSE NEIGHBOUR: 'it returns false'. Refute it at one input. -/
def syntaxLooksWrong : ChangeSpec := { name := "syntaxLooks", fn := fun _ => fun
  | [d1, d2] => { results := [.lit (.bool false)], args := [d1, d2] }
  | _ => none }
def SyntaxLooksWrongFalsely : Prop := syntaxLooksRow.holds Tryz.pinned (OpenSpec.ofChange syntaxLooksWrong)

/-- 'codesearchlaw12.SyntaxNested': WHATEVER THE INPUT: true; the input reads as it did. -/
def syntaxNestedSpec : ChangeSpec := { name := "syntaxNested", fn := fun _ => fun
  | [d1, d2] => { results := [.lit (.bool true)], args := [d1, d2] }
  | _ => none }
def syntaxNestedRow : OpenClaim := { program := "ytonoklmobocikaagreatdoor", sum := "706603f8e7746f1b5321aeee27468d84a1490488b20f29f57c03f12a44a35aaf", func := "codesearch/codesearchlaw12.SyntaxNested", spec := "syntaxNested", inPlace := ["internal/bytealg.IndexByteString", "internal/bytealg.IndexString", "internal/abi.NoEscape", "internal/bytealg.MakeNoZero"], unfollowed := true, recurses := true, named := ["unicode/utf8.first", "unicode/utf8.acceptRanges", "internal/bytealg.MaxLen"], apart := false, laid := [("unicode/utf8.acceptRanges", laid_unicode_utf8_acceptRanges), ("unicode/utf8.first", laid_unicode_utf8_first)] }
def SyntaxNestedSaid : Prop := syntaxNestedRow.holds Tryz.pinned (OpenSpec.ofChange syntaxNestedSpec)

/-- ITS FALSE NEIGHBOUR: 'it returns false'. Refute it at one input. -/
def syntaxNestedWrong : ChangeSpec := { name := "syntaxNested", fn := fun _ => fun
  | [d1, d2] => { results := [.lit (.bool false)], args := [d1, d2] }
  | _ => none }
def SyntaxNestedWrongFalsely : Prop := syntaxNestedRow.holds Tryz.pinned (OpenSpec.ofChange syntaxNestedWrong)

/-- 'codesearchlaw12.SyntaxPieces': WHATEVER THE INPUT: true; the input reads as it did. -/
def syntaxPiecesSpec : ChangeSpec := { name := "syntaxPieces", fn := fun _ => fun
  | [d] => { results := [.lit (.bool true)], args := [d] }
  | _ => none }
def syntaxPiecesRow : OpenClaim := { program := "ytonoklmobocikaagreatdoor", sum := "706603f8e7746f1b5321aeee27468d84a1490488b20f29f57c03f12a44a35aaf", func := "codesearch/codesearchlaw12.SyntaxPieces", spec := "syntaxPieces", inPlace := ["internal/bytealg.IndexByteString", "internal/bytealg.IndexString", "internal/abi.NoEscape", "internal/bytealg.MakeNoZero"], unfollowed := true, recurses := true, named := ["unicode/utf8.first", "unicode/utf8.acceptRanges", "internal/bytealg.MaxLen"], apart := false, laid := [("unicode/utf8.acceptRanges", laid_unicode_utf8_acceptRanges), ("unicode/utf8.first", laid_unicode_utf8_first)] }
def SyntaxPiecesSaid : Prop := syntaxPiecesRow.holds Tryz.pinned (OpenSpec.ofChange syntaxPiecesSpec)

/-- ITS FALSE NEIGHBOUR: 'it returns false'. Refute it at one input. -/
def syntaxPiecesWrong : ChangeSpec := { name := "syntaxPieces", fn := fun _ => fun
  | [d] => { results := [.lit (.bool false)], args := [d] }
  | _ => none }
def SyntaxPiecesWrongFalsely : Prop := syntaxPiecesRow.holds Tryz.pinned (OpenSpec.ofChange syntaxPiecesWrong)

/-- 'codesearchlaw12.SyntaxBlanks': WHATEVER THE INPUT: true; the input reads as it did. -/
def syntaxBlanksSpec : ChangeSpec := { name := "syntaxBlanks", fn := fun _ => fun
  | [d] => { results := [.lit (.bool true)], args := [d] }
  | _ => none }
def syntaxBlanksRow : OpenClaim := { program := "ytonoklmobocikaagreatdoor", sum := "706603f8e7746f1b5321aeee27468d84a1490488b20f29f57c03f12a44a35aaf", func := "codesearch/codesearchlaw12.SyntaxBlanks", spec := "syntaxBlanks", inPlace := ["internal/bytealg.IndexByteString", "internal/bytealg.IndexString", "internal/abi.NoEscape", "internal/bytealg.MakeNoZero"], unfollowed := true, recurses := true, named := ["unicode/utf8.first", "unicode/utf8.acceptRanges", "internal/bytealg.MaxLen"], apart := false, laid := [("unicode/utf8.acceptRanges", laid_unicode_utf8_acceptRanges), ("unicode/utf8.first", laid_unicode_utf8_first)] }
def SyntaxBlanksSaid : Prop := syntaxBlanksRow.holds Tryz.pinned (OpenSpec.ofChange syntaxBlanksSpec)

/-- ITS FALSE NEIGHBOUR: 'it returns false'. Refute it at one input. -/
def syntaxBlanksWrong : ChangeSpec := { name := "syntaxBlanks", fn := fun _ => fun
  | [d] => { results := [.lit (.bool false)], args := [d] }
  | _ => none }
def SyntaxBlanksWrongFalsely : Prop := syntaxBlanksRow.holds Tryz.pinned (OpenSpec.ofChange syntaxBlanksWrong)

/- THE SECOND FORM. 'bulk': how many values and letters a reading holds, each counted each time it is reached (what is shared counts as often as it is met; a slice's spare places count too). A statement '..UptoSaid' is the law's where the arguments, and the package variables that the reading takes, are together of bulk at most 1048576: NARROWER than '..Said'. Prove '..Said' where nothing that the law and all that it calls make is longer than what came in: it says more and counts as full. Else prove '..UptoSaid'. A law counts once. -/
mutual
def uptoBulk {H : Type} : DataW H → Nat
  | .lit (.string bytes) => bytes.length + 1
  | .lit _ => 1
  | .nil => 1
  | .ptr d => uptoBulk d + 1
  | .slice elems spare => uptoBulkAll elems + uptoBulkAll spare + 1
  | .agg parts => uptoBulkAll parts + 1
  | .iface _ d => uptoBulk d + 1
  | .map entries => uptoBulkEntries entries + 1
  | .held _ => 1
def uptoBulkAll {H : Type} : List (DataW H) → Nat
  | [] => 0
  | d :: r => uptoBulk d + uptoBulkAll r
def uptoBulkEntries {H : Type} : List (Lit × DataW H) → Nat
  | [] => 0
  | x :: r => uptoBulkEntry x + uptoBulkEntries r
def uptoBulkEntry {H : Type} : Lit × DataW H → Nat
  | (.string bytes, d) => bytes.length + uptoBulk d + 1
  | (_, d) => uptoBulk d + 1
 end
def uptoSmall : (H : Type) → List (DataW H) → Bool := fun _ ds => decide (uptoBulkAll ds ≤ 1048576)
def OpenSpec.upto (s : _root_.Go.ChangeSpec) : _root_.Go.OpenSpec := { _root_.Go.OpenSpec.ofChange s with cond := some uptoSmall }

/-- 'codesearchlaw12.SyntaxModules', WHERE WHAT IT READS IS OF BULK AT MOST 1048576: true; the input reads as it did. -/
def syntaxModulesUptoRow : OpenClaim := { program := "ytonoklmobocikaagreatdoor", sum := "706603f8e7746f1b5321aeee27468d84a1490488b20f29f57c03f12a44a35aaf", func := "codesearch/codesearchlaw12.SyntaxModules", spec := "syntaxModules", inPlace := ["internal/bytealg.IndexByteString", "internal/bytealg.IndexString", "internal/abi.NoEscape", "internal/bytealg.MakeNoZero"], unfollowed := true, recurses := true, named := ["unicode/utf8.first", "unicode/utf8.acceptRanges", "internal/bytealg.MaxLen"], apart := false, laid := [("unicode/utf8.acceptRanges", laid_unicode_utf8_acceptRanges), ("unicode/utf8.first", laid_unicode_utf8_first)], narrowed := true }
def SyntaxModulesUptoSaid : Prop := syntaxModulesUptoRow.holds Tryz.pinned (OpenSpec.upto syntaxModulesSpec)

/-- 'codesearchlaw12.SyntaxFragments', WHERE WHAT IT READS IS OF BULK AT MOST 1048576: true; the input reads as it did. -/
def syntaxFragmentsUptoRow : OpenClaim := { program := "ytonoklmobocikaagreatdoor", sum := "706603f8e7746f1b5321aeee27468d84a1490488b20f29f57c03f12a44a35aaf", func := "codesearch/codesearchlaw12.SyntaxFragments", spec := "syntaxFragments", inPlace := ["internal/bytealg.IndexByteString", "internal/bytealg.IndexString", "internal/abi.NoEscape", "internal/bytealg.MakeNoZero"], unfollowed := true, recurses := true, named := ["unicode/utf8.first", "unicode/utf8.acceptRanges", "internal/bytealg.MaxLen"], apart := false, laid := [("unicode/utf8.acceptRanges", laid_unicode_utf8_acceptRanges), ("unicode/utf8.first", laid_unicode_utf8_first)], narrowed := true }
def SyntaxFragmentsUptoSaid : Prop := syntaxFragmentsUptoRow.holds Tryz.pinned (OpenSpec.upto syntaxFragmentsSpec)

/-- 'codesearchlaw12.SyntaxShapes', WHERE WHAT IT READS IS OF BULK AT MOST 1048576: true; the input reads as it did. -/
def syntaxShapesUptoRow : OpenClaim := { program := "ytonoklmobocikaagreatdoor", sum := "706603f8e7746f1b5321aeee27468d84a1490488b20f29f57c03f12a44a35aaf", func := "codesearch/codesearchlaw12.SyntaxShapes", spec := "syntaxShapes", inPlace := ["internal/bytealg.IndexByteString", "internal/bytealg.IndexString", "internal/abi.NoEscape", "internal/bytealg.MakeNoZero"], unfollowed := true, recurses := true, named := ["unicode/utf8.first", "unicode/utf8.acceptRanges", "internal/bytealg.MaxLen"], loops := true, apart := false, laid := [("unicode/utf8.acceptRanges", laid_unicode_utf8_acceptRanges), ("unicode/utf8.first", laid_unicode_utf8_first)], narrowed := true }
def SyntaxShapesUptoSaid : Prop := syntaxShapesUptoRow.holds Tryz.pinned (OpenSpec.upto syntaxShapesSpec)

/-- 'codesearchlaw12.SyntaxLooks', WHERE WHAT IT READS IS OF BULK AT MOST 1048576: true; the input reads as it did. -/
def syntaxLooksUptoRow : OpenClaim := { program := "ytonoklmobocikaagreatdoor", sum := "706603f8e7746f1b5321aeee27468d84a1490488b20f29f57c03f12a44a35aaf", func := "codesearch/codesearchlaw12.SyntaxLooks", spec := "syntaxLooks", inPlace := ["internal/bytealg.IndexByteString", "internal/bytealg.IndexString", "internal/abi.NoEscape", "internal/bytealg.MakeNoZero"], unfollowed := true, recurses := true, named := ["unicode/utf8.first", "unicode/utf8.acceptRanges", "internal/bytealg.MaxLen"], loops := true, apart := false, laid := [("unicode/utf8.acceptRanges", laid_unicode_utf8_acceptRanges), ("unicode/utf8.first", laid_unicode_utf8_first)], narrowed := true }
def SyntaxLooksUptoSaid : Prop := syntaxLooksUptoRow.holds Tryz.pinned (OpenSpec.upto syntaxLooksSpec)

/-- 'codesearchlaw12.SyntaxNested', WHERE WHAT IT READS IS OF BULK AT MOST 1048576: true; the input reads as it did. -/
def syntaxNestedUptoRow : OpenClaim := { program := "ytonoklmobocikaagreatdoor", sum := "706603f8e7746f1b5321aeee27468d84a1490488b20f29f57c03f12a44a35aaf", func := "codesearch/codesearchlaw12.SyntaxNested", spec := "syntaxNested", inPlace := ["internal/bytealg.IndexByteString", "internal/bytealg.IndexString", "internal/abi.NoEscape", "internal/bytealg.MakeNoZero"], unfollowed := true, recurses := true, named := ["unicode/utf8.first", "unicode/utf8.acceptRanges", "internal/bytealg.MaxLen"], apart := false, laid := [("unicode/utf8.acceptRanges", laid_unicode_utf8_acceptRanges), ("unicode/utf8.first", laid_unicode_utf8_first)], narrowed := true }
def SyntaxNestedUptoSaid : Prop := syntaxNestedUptoRow.holds Tryz.pinned (OpenSpec.upto syntaxNestedSpec)

/-- 'codesearchlaw12.SyntaxPieces', WHERE WHAT IT READS IS OF BULK AT MOST 1048576: true; the input reads as it did. -/
def syntaxPiecesUptoRow : OpenClaim := { program := "ytonoklmobocikaagreatdoor", sum := "706603f8e7746f1b5321aeee27468d84a1490488b20f29f57c03f12a44a35aaf", func := "codesearch/codesearchlaw12.SyntaxPieces", spec := "syntaxPieces", inPlace := ["internal/bytealg.IndexByteString", "internal/bytealg.IndexString", "internal/abi.NoEscape", "internal/bytealg.MakeNoZero"], unfollowed := true, recurses := true, named := ["unicode/utf8.first", "unicode/utf8.acceptRanges", "internal/bytealg.MaxLen"], apart := false, laid := [("unicode/utf8.acceptRanges", laid_unicode_utf8_acceptRanges), ("unicode/utf8.first", laid_unicode_utf8_first)], narrowed := true }
def SyntaxPiecesUptoSaid : Prop := syntaxPiecesUptoRow.holds Tryz.pinned (OpenSpec.upto syntaxPiecesSpec)

/-- 'codesearchlaw12.SyntaxBlanks', WHERE WHAT IT READS IS OF BULK AT MOST 1048576: true; the input reads as it did. -/
def syntaxBlanksUptoRow : OpenClaim := { program := "ytonoklmobocikaagreatdoor", sum := "706603f8e7746f1b5321aeee27468d84a1490488b20f29f57c03f12a44a35aaf", func := "codesearch/codesearchlaw12.SyntaxBlanks", spec := "syntaxBlanks", inPlace := ["internal/bytealg.IndexByteString", "internal/bytealg.IndexString", "internal/abi.NoEscape", "internal/bytealg.MakeNoZero"], unfollowed := true, recurses := true, named := ["unicode/utf8.first", "unicode/utf8.acceptRanges", "internal/bytealg.MaxLen"], apart := false, laid := [("unicode/utf8.acceptRanges", laid_unicode_utf8_acceptRanges), ("unicode/utf8.first", laid_unicode_utf8_first)], narrowed := true }
def SyntaxBlanksUptoSaid : Prop := syntaxBlanksUptoRow.holds Tryz.pinned (OpenSpec.upto syntaxBlanksSpec)

end Rows
end Go.Proofs.YtonoklmobocikaaGreatDoor
