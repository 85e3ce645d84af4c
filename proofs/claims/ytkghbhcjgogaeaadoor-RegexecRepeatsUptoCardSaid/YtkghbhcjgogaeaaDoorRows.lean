/-
  NARROWER THAN 'FOR EVERY INPUT', by the rows' own cells (each row's printed sentence says how): RegexecEnds: loops, laid · RegexecFinds: loops, laid · RegexecAlls: loops, laid · RegexecFirst: loops, laid · RegexecJoins: loops, laid · RegexecRepeats: loops, laid · RegexecApart: loops, laid.
  DERIVED. THE GIVEN ROWS OF THIS SEAT. 7 by the template 'for every input the law returns true; each argument reads behind the call as it read before'; 0 by the template 'total and deterministic' (their statements: YtkghbhcjgogaeaaDoorTotals.lean).
  GIVEN WITH THE SEED: the statements are not yours to turn. If you find one false, say at which input.
  Laid BY PROGRAM, IN A SANDBOX (cutbox-rows.mjs): the forced cells as the released guide's own fill.sh prints them over the translation cd663d138ded41c1… (all of the seat's roots in one cut). By AI agents, Wed Nov 11 2026. No macro, syntax, notation, axiom, sorry.
-/
import Derived.Test.YtkghbhcjgogaeaaDoorChecked
import GoSem.Claim
import GoSem.ClaimJoined
import GoSem.ClaimMapViews
import Derived.JoinedTies
import Derived.KernelRfl
namespace Go.Proofs.YtkghbhcjgogaeaaDoor
/- THE CELL 'sum', in the pinned program and in every row, IS THE sha256 OF THE DUMP (.gsa) THAT YtkghbhcjgogaeaaDoorProg.lean LOADS. Nothing in Lean hashes anything: it is a label: what it is worth is what the hold of that sum in a sandbox is worth. -/
noncomputable def Tryd.pinned : Pinned := { name := "ytkghbhcjgogaeaadoor", sum := "cd663d138ded41c1933e84fc4b91e92b23f127e02979f4afd4086d0f882dc008", checked := Tryd.checked }
namespace Rows
def none {H : Type} : Left H := { results := [], args := [] }

/- WHAT THE LISTED PACKAGE-LEVEL VARIABLES READ AS WHEN THE CALL BEGINS. Each datum BY PROGRAM (the guide's laid-datum.mjs) off the statement by which the dump's own 'gosem.cut.vars' lays the variable. In a bare row this is a premise. The card (YtkghbhcjgogaeaaDoorCards.lean) ties it to the program's text. -/
def laid_math_bits_deBruijn64tab {H : Type} : DataW H := .agg [.lit (.int .u8 0), .lit (.int .u8 1), .lit (.int .u8 56), .lit (.int .u8 2), .lit (.int .u8 57), .lit (.int .u8 49), .lit (.int .u8 28), .lit (.int .u8 3), .lit (.int .u8 61), .lit (.int .u8 58), .lit (.int .u8 42), .lit (.int .u8 50), .lit (.int .u8 38), .lit (.int .u8 29), .lit (.int .u8 17), .lit (.int .u8 4), .lit (.int .u8 62), .lit (.int .u8 47), .lit (.int .u8 59), .lit (.int .u8 36), .lit (.int .u8 45), .lit (.int .u8 43), .lit (.int .u8 51), .lit (.int .u8 22), .lit (.int .u8 53), .lit (.int .u8 39), .lit (.int .u8 33), .lit (.int .u8 30), .lit (.int .u8 24), .lit (.int .u8 18), .lit (.int .u8 12), .lit (.int .u8 5), .lit (.int .u8 63), .lit (.int .u8 55), .lit (.int .u8 48), .lit (.int .u8 27), .lit (.int .u8 60), .lit (.int .u8 41), .lit (.int .u8 37), .lit (.int .u8 16), .lit (.int .u8 46), .lit (.int .u8 35), .lit (.int .u8 44), .lit (.int .u8 21), .lit (.int .u8 52), .lit (.int .u8 32), .lit (.int .u8 23), .lit (.int .u8 11), .lit (.int .u8 54), .lit (.int .u8 26), .lit (.int .u8 40), .lit (.int .u8 15), .lit (.int .u8 34), .lit (.int .u8 20), .lit (.int .u8 31), .lit (.int .u8 10), .lit (.int .u8 25), .lit (.int .u8 14), .lit (.int .u8 19), .lit (.int .u8 9), .lit (.int .u8 13), .lit (.int .u8 8), .lit (.int .u8 7), .lit (.int .u8 6)]

/-- 'codesearchlaw09.RegexecEnds': WHATEVER THE INPUT: true; the input reads as it did. -/
def regexecEndsSpec : ChangeSpec := { name := "regexecEnds", fn := fun _ => fun
  | [d1, d2, d3] => { results := [.lit (.bool true)], args := [d1, d2, d3] }
  | _ => none }
def regexecEndsRow : OpenClaim := { program := "ytkghbhcjgogaeaadoor", sum := "cd663d138ded41c1933e84fc4b91e92b23f127e02979f4afd4086d0f882dc008", func := "codesearch/codesearchlaw09.RegexecEnds", spec := "regexecEnds", inPlace := ["slices.overlaps[codesearch/regexec.row]"], unfollowed := true, recurses := true, named := ["math/bits.deBruijn64tab"], loops := true, apart := false, laid := [("math/bits.deBruijn64tab", laid_math_bits_deBruijn64tab)] }
def RegexecEndsSaid : Prop := regexecEndsRow.holds Tryd.pinned (OpenSpec.ofChange regexecEndsSpec)

/-- ITS FALSE NEIGHBOUR: 'it returns false'. Refute it at one input. -/
def regexecEndsWrong : ChangeSpec := { name := "regexecEnds", fn := fun _ => fun
  | [d1, d2, d3] => { results := [.lit (.bool false)], args := [d1, d2, d3] }
  | _ => none }
def RegexecEndsWrongFalsely : Prop := regexecEndsRow.holds Tryd.pinned (OpenSpec.ofChange regexecEndsWrong)

/-- 'codesearchlaw09.RegexecFinds': WHATEVER THE INPUT: true; the input reads as it did. -/
def regexecFindsSpec : ChangeSpec := { name := "regexecFinds", fn := fun _ => fun
  | [d1, d2, d3] => { results := [.lit (.bool true)], args := [d1, d2, d3] }
  | _ => none }
def regexecFindsRow : OpenClaim := { program := "ytkghbhcjgogaeaadoor", sum := "cd663d138ded41c1933e84fc4b91e92b23f127e02979f4afd4086d0f882dc008", func := "codesearch/codesearchlaw09.RegexecFinds", spec := "regexecFinds", inPlace := ["slices.overlaps[codesearch/regexec.row]"], unfollowed := true, recurses := true, named := ["math/bits.deBruijn64tab"], loops := true, apart := false, laid := [("math/bits.deBruijn64tab", laid_math_bits_deBruijn64tab)] }
def RegexecFindsSaid : Prop := regexecFindsRow.holds Tryd.pinned (OpenSpec.ofChange regexecFindsSpec)

/-- ITS FALSE NEIGHBOUR: 'it returns false'. Refute it at one input. -/
def regexecFindsWrong : ChangeSpec := { name := "regexecFinds", fn := fun _ => fun
  | [d1, d2, d3] => { results := [.lit (.bool false)], args := [d1, d2, d3] }
  | _ => none }
def RegexecFindsWrongFalsely : Prop := regexecFindsRow.holds Tryd.pinned (OpenSpec.ofChange regexecFindsWrong)

/-- 'codesearchlaw09.RegexecAlls': WHATEVER THE INPUT: true; the input reads as it did. -/
def regexecAllsSpec : ChangeSpec := { name := "regexecAlls", fn := fun _ => fun
  | [d1, d2] => { results := [.lit (.bool true)], args := [d1, d2] }
  | _ => none }
def regexecAllsRow : OpenClaim := { program := "ytkghbhcjgogaeaadoor", sum := "cd663d138ded41c1933e84fc4b91e92b23f127e02979f4afd4086d0f882dc008", func := "codesearch/codesearchlaw09.RegexecAlls", spec := "regexecAlls", inPlace := ["slices.overlaps[codesearch/regexec.row]"], unfollowed := true, recurses := true, named := ["math/bits.deBruijn64tab"], loops := true, apart := false, laid := [("math/bits.deBruijn64tab", laid_math_bits_deBruijn64tab)] }
def RegexecAllsSaid : Prop := regexecAllsRow.holds Tryd.pinned (OpenSpec.ofChange regexecAllsSpec)

/-- ITS FALSE NEIGHBOUR: 'it returns false'. Refute it at one input. -/
def regexecAllsWrong : ChangeSpec := { name := "regexecAlls", fn := fun _ => fun
  | [d1, d2] => { results := [.lit (.bool false)], args := [d1, d2] }
  | _ => none }
def RegexecAllsWrongFalsely : Prop := regexecAllsRow.holds Tryd.pinned (OpenSpec.ofChange regexecAllsWrong)

/-- 'codesearchlaw09.RegexecFirst': WHATEVER THE INPUT: true; the input reads as it did. -/
def regexecFirstSpec : ChangeSpec := { name := "regexecFirst", fn := fun _ => fun
  | [d1, d2, d3] => { results := [.lit (.bool true)], args := [d1, d2, d3] }
  | _ => none }
def regexecFirstRow : OpenClaim := { program := "ytkghbhcjgogaeaadoor", sum := "cd663d138ded41c1933e84fc4b91e92b23f127e02979f4afd4086d0f882dc008", func := "codesearch/codesearchlaw09.RegexecFirst", spec := "regexecFirst", inPlace := ["slices.overlaps[codesearch/regexec.row]"], unfollowed := true, recurses := true, named := ["math/bits.deBruijn64tab"], loops := true, apart := false, laid := [("math/bits.deBruijn64tab", laid_math_bits_deBruijn64tab)] }
def RegexecFirstSaid : Prop := regexecFirstRow.holds Tryd.pinned (OpenSpec.ofChange regexecFirstSpec)

/-- ITS FALSE NEIGHBOUR: 'it returns false'. Refute it at one input. -/
def regexecFirstWrong : ChangeSpec := { name := "regexecFirst", fn := fun _ => fun
  | [d1, d2, d3] => { results := [.lit (.bool false)], args := [d1, d2, d3] }
  | _ => none }
def RegexecFirstWrongFalsely : Prop := regexecFirstRow.holds Tryd.pinned (OpenSpec.ofChange regexecFirstWrong)

/-- 'codesearchlaw09.RegexecJoins': WHATEVER THE INPUT: true; the input reads as it did. -/
def regexecJoinsSpec : ChangeSpec := { name := "regexecJoins", fn := fun _ => fun
  | [d1, d2, d3] => { results := [.lit (.bool true)], args := [d1, d2, d3] }
  | _ => none }
def regexecJoinsRow : OpenClaim := { program := "ytkghbhcjgogaeaadoor", sum := "cd663d138ded41c1933e84fc4b91e92b23f127e02979f4afd4086d0f882dc008", func := "codesearch/codesearchlaw09.RegexecJoins", spec := "regexecJoins", inPlace := ["slices.overlaps[codesearch/regexec.row]"], unfollowed := true, recurses := true, named := ["math/bits.deBruijn64tab"], loops := true, apart := false, laid := [("math/bits.deBruijn64tab", laid_math_bits_deBruijn64tab)] }
def RegexecJoinsSaid : Prop := regexecJoinsRow.holds Tryd.pinned (OpenSpec.ofChange regexecJoinsSpec)

/-- ITS FALSE NEIGHBOUR: 'it returns false'. Refute it at one input. -/
def regexecJoinsWrong : ChangeSpec := { name := "regexecJoins", fn := fun _ => fun
  | [d1, d2, d3] => { results := [.lit (.bool false)], args := [d1, d2, d3] }
  | _ => none }
def RegexecJoinsWrongFalsely : Prop := regexecJoinsRow.holds Tryd.pinned (OpenSpec.ofChange regexecJoinsWrong)

/-- 'codesearchlaw09.RegexecRepeats': WHATEVER THE INPUT: true; the input reads as it did. -/
def regexecRepeatsSpec : ChangeSpec := { name := "regexecRepeats", fn := fun _ => fun
  | [d1, d2, d3] => { results := [.lit (.bool true)], args := [d1, d2, d3] }
  | _ => none }
def regexecRepeatsRow : OpenClaim := { program := "ytkghbhcjgogaeaadoor", sum := "cd663d138ded41c1933e84fc4b91e92b23f127e02979f4afd4086d0f882dc008", func := "codesearch/codesearchlaw09.RegexecRepeats", spec := "regexecRepeats", inPlace := ["slices.overlaps[codesearch/regexec.row]"], unfollowed := true, recurses := true, named := ["math/bits.deBruijn64tab"], loops := true, apart := false, laid := [("math/bits.deBruijn64tab", laid_math_bits_deBruijn64tab)] }
def RegexecRepeatsSaid : Prop := regexecRepeatsRow.holds Tryd.pinned (OpenSpec.ofChange regexecRepeatsSpec)

/-- ITS FALSE NEIGHBOUR: 'it returns false'. Refute it at one input. -/
def regexecRepeatsWrong : ChangeSpec := { name := "regexecRepeats", fn := fun _ => fun
  | [d1, d2, d3] => { results := [.lit (.bool false)], args := [d1, d2, d3] }
  | _ => none }
def RegexecRepeatsWrongFalsely : Prop := regexecRepeatsRow.holds Tryd.pinned (OpenSpec.ofChange regexecRepeatsWrong)

/-- 'codesearchlaw09.RegexecApart': WHATEVER THE INPUT: true; the input reads as it did. -/
def regexecApartSpec : ChangeSpec := { name := "regexecApart", fn := fun _ => fun
  | [d1, d2] => { results := [.lit (.bool true)], args := [d1, d2] }
  | _ => none }
def regexecApartRow : OpenClaim := { program := "ytkghbhcjgogaeaadoor", sum := "cd663d138ded41c1933e84fc4b91e92b23f127e02979f4afd4086d0f882dc008", func := "codesearch/codesearchlaw09.RegexecApart", spec := "regexecApart", inPlace := ["slices.overlaps[codesearch/regexec.row]"], unfollowed := true, recurses := true, named := ["math/bits.deBruijn64tab"], loops := true, apart := false, laid := [("math/bits.deBruijn64tab", laid_math_bits_deBruijn64tab)] }
def RegexecApartSaid : Prop := regexecApartRow.holds Tryd.pinned (OpenSpec.ofChange regexecApartSpec)

/-- ITS FALSE NEIGHBOUR: 'it returns false'. Refute it at one input. -/
def regexecApartWrong : ChangeSpec := { name := "regexecApart", fn := fun _ => fun
  | [d1, d2] => { results := [.lit (.bool false)], args := [d1, d2] }
  | _ => none }
def RegexecApartWrongFalsely : Prop := regexecApartRow.holds Tryd.pinned (OpenSpec.ofChange regexecApartWrong)

/- THE SECOND FORM. 'bulk': how many values and letters a reading holds, each counted each time it is reached (what is shared counts as often as it is met; a slice's spare places count too). A statement '..UptoSaid' is the law's where the arguments, and the package variables that the reading takes, are together of bulk at most 1048576: NARROWER than '..Said'. Prove '..Said' where nothing that the law and all that it calls make is longer than what came in: it says more and counts as full. Else prove '..UptoSaid'. A law counts once. -/
mutual
def uptoBulk {H : Type} : DataW H → Nat
  | .lit (.string bytes) => bytes.length + 1
  | .lit _ => 1
  | .nil => 1
  | .ptr d => uptoBulk d + 1
  | .slice elems spare => uptoBulkAll elems + uptoBulkAll spare + 1
  | .agg parts => uptoBulkAll parts + 1
  | .iface _ d => uptoBulk d + 1
  | .map entries => uptoBulkEntries entries + 1
  | .held _ => 1
def uptoBulkAll {H : Type} : List (DataW H) → Nat
  | [] => 0
  | d :: r => uptoBulk d + uptoBulkAll r
def uptoBulkEntries {H : Type} : List (Lit × DataW H) → Nat
  | [] => 0
  | x :: r => uptoBulkEntry x + uptoBulkEntries r
def uptoBulkEntry {H : Type} : Lit × DataW H → Nat
  | (.string bytes, d) => bytes.length + uptoBulk d + 1
  | (_, d) => uptoBulk d + 1
 end
def uptoSmall : (H : Type) → List (DataW H) → Bool := fun _ ds => decide (uptoBulkAll ds ≤ 1048576)
def OpenSpec.upto (s : _root_.Go.ChangeSpec) : _root_.Go.OpenSpec := { _root_.Go.OpenSpec.ofChange s with cond := some uptoSmall }

/-- 'codesearchlaw09.RegexecEnds', WHERE WHAT IT READS IS OF BULK AT MOST 1048576: true; the input reads as it did. -/
def regexecEndsUptoRow : OpenClaim := { program := "ytkghbhcjgogaeaadoor", sum := "cd663d138ded41c1933e84fc4b91e92b23f127e02979f4afd4086d0f882dc008", func := "codesearch/codesearchlaw09.RegexecEnds", spec := "regexecEnds", inPlace := ["slices.overlaps[codesearch/regexec.row]"], unfollowed := true, recurses := true, named := ["math/bits.deBruijn64tab"], loops := true, apart := false, laid := [("math/bits.deBruijn64tab", laid_math_bits_deBruijn64tab)], narrowed := true }
def RegexecEndsUptoSaid : Prop := regexecEndsUptoRow.holds Tryd.pinned (OpenSpec.upto regexecEndsSpec)

/-- 'codesearchlaw09.RegexecFinds', WHERE WHAT IT READS IS OF BULK AT MOST 1048576: true; the input reads as it did. -/
def regexecFindsUptoRow : OpenClaim := { program := "ytkghbhcjgogaeaadoor", sum := "cd663d138ded41c1933e84fc4b91e92b23f127e02979f4afd4086d0f882dc008", func := "codesearch/codesearchlaw09.RegexecFinds", spec := "regexecFinds", inPlace := ["slices.overlaps[codesearch/regexec.row]"], unfollowed := true, recurses := true, named := ["math/bits.deBruijn64tab"], loops := true, apart := false, laid := [("math/bits.deBruijn64tab", laid_math_bits_deBruijn64tab)], narrowed := true }
def RegexecFindsUptoSaid : Prop := regexecFindsUptoRow.holds Tryd.pinned (OpenSpec.upto regexecFindsSpec)

/-- 'codesearchlaw09.RegexecAlls', WHERE WHAT IT READS IS OF BULK AT MOST 1048576: true; the input reads as it did. -/
def regexecAllsUptoRow : OpenClaim := { program := "ytkghbhcjgogaeaadoor", sum := "cd663d138ded41c1933e84fc4b91e92b23f127e02979f4afd4086d0f882dc008", func := "codesearch/codesearchlaw09.RegexecAlls", spec := "regexecAlls", inPlace := ["slices.overlaps[codesearch/regexec.row]"], unfollowed := true, recurses := true, named := ["math/bits.deBruijn64tab"], loops := true, apart := false, laid := [("math/bits.deBruijn64tab", laid_math_bits_deBruijn64tab)], narrowed := true }
def RegexecAllsUptoSaid : Prop := regexecAllsUptoRow.holds Tryd.pinned (OpenSpec.upto regexecAllsSpec)

/-- 'codesearchlaw09.RegexecFirst', WHERE WHAT IT READS IS OF BULK AT MOST 1048576: true; the input reads as it did. -/
def regexecFirstUptoRow : OpenClaim := { program := "ytkghbhcjgogaeaadoor", sum := "cd663d138ded41c1933e84fc4b91e92b23f127e02979f4afd4086d0f882dc008", func := "codesearch/codesearchlaw09.RegexecFirst", spec := "regexecFirst", inPlace := ["slices.overlaps[codesearch/regexec.row]"], unfollowed := true, recurses := true, named := ["math/bits.deBruijn64tab"], loops := true, apart := false, laid := [("math/bits.deBruijn64tab", laid_math_bits_deBruijn64tab)], narrowed := true }
def RegexecFirstUptoSaid : Prop := regexecFirstUptoRow.holds Tryd.pinned (OpenSpec.upto regexecFirstSpec)

/-- 'codesearchlaw09.RegexecJoins', WHERE WHAT IT READS IS OF BULK AT MOST 1048576: true; the input reads as it did. -/
def regexecJoinsUptoRow : OpenClaim := { program := "ytkghbhcjgogaeaadoor", sum := "cd663d138ded41c1933e84fc4b91e92b23f127e02979f4afd4086d0f882dc008", func := "codesearch/codesearchlaw09.RegexecJoins", spec := "regexecJoins", inPlace := ["slices.overlaps[codesearch/regexec.row]"], unfollowed := true, recurses := true, named := ["math/bits.deBruijn64tab"], loops := true, apart := false, laid := [("math/bits.deBruijn64tab", laid_math_bits_deBruijn64tab)], narrowed := true }
def RegexecJoinsUptoSaid : Prop := regexecJoinsUptoRow.holds Tryd.pinned (OpenSpec.upto regexecJoinsSpec)

/-- 'codesearchlaw09.RegexecRepeats', WHERE WHAT IT READS IS OF BULK AT MOST 1048576: true; the input reads as it did. -/
def regexecRepeatsUptoRow : OpenClaim := { program := "ytkghbhcjgogaeaadoor", sum := "cd663d138ded41c1933e84fc4b91e92b23f127e02979f4afd4086d0f882dc008", func := "codesearch/codesearchlaw09.RegexecRepeats", spec := "regexecRepeats", inPlace := ["slices.overlaps[codesearch/regexec.row]"], unfollowed := true, recurses := true, named := ["math/bits.deBruijn64tab"], loops := true, apart := false, laid := [("math/bits.deBruijn64tab", laid_math_bits_deBruijn64tab)], narrowed := true }
def RegexecRepeatsUptoSaid : Prop := regexecRepeatsUptoRow.holds Tryd.pinned (OpenSpec.upto regexecRepeatsSpec)

/-- 'codesearchlaw09.RegexecApart', WHERE WHAT IT READS IS OF BULK AT MOST 1048576: true; the input reads as it did. -/
def regexecApartUptoRow : OpenClaim := { program := "ytkghbhcjgogaeaadoor", sum := "cd663d138ded41c1933e84fc4b91e92b23f127e02979f4afd4086d0f882dc008", func := "codesearch/codesearchlaw09.RegexecApart", spec := "regexecApart", inPlace := ["slices.overlaps[codesearch/regexec.row]"], unfollowed := true, recurses := true, named := ["math/bits.deBruijn64tab"], loops := true, apart := false, laid := [("math/bits.deBruijn64tab", laid_math_bits_deBruijn64tab)], narrowed := true }
def RegexecApartUptoSaid : Prop := regexecApartUptoRow.holds Tryd.pinned (OpenSpec.upto regexecApartSpec)

end Rows
end Go.Proofs.YtkghbhcjgogaeaaDoor
