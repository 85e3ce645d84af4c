/-
  NARROWER THAN 'FOR EVERY INPUT', by the rows' own cells (each row's printed sentence says how): RegramLiterals: loops · RegramEvals: loops · RegramSimplifies: loops · RegramForms: loops · RegramFolds: loops.
  DERIVED. THE GIVEN ROWS OF THIS SEAT. 5 by the template 'for every input the law returns true; each argument reads behind the call as it read before'; 0 by the template 'total and deterministic' (their statements: YtlnbjdlooghpeaaTotals.lean).
  GIVEN WITH THE SEED: the statements are not yours to turn. If you find one false, say at which input.
  Laid BY PROGRAM, IN A SANDBOX (cutbox-rows.mjs): the forced cells as the released guide's own fill.sh prints them over the translation 91378a54fca37bab… (all of the seat's roots in one cut). By AI agents, Wed Nov 11 2026. No macro, syntax, notation, axiom, sorry.
-/
import Derived.Test.YtlnbjdlooghpeaaChecked
import GoSem.Claim
import GoSem.ClaimJoined
import GoSem.ClaimMapViews
import Derived.JoinedTies
import Derived.KernelRfl
namespace Go.Proofs.Ytlnbjdlooghpeaa
/- THE CELL 'sum', in the pinned program and in every row, IS THE sha256 OF THE DUMP (.gsa) THAT YtlnbjdlooghpeaaProg.lean LOADS. Nothing in Lean hashes anything: it is a label: what it is worth is what the hold of that sum in a sandbox is worth. -/
noncomputable def Try.pinned : Pinned := { name := "ytlnbjdlooghpeaa", sum := "91378a54fca37bab64d6478bf0f3a30025737edd160b51e374364fb6bd1c6180", checked := Try.checked }
namespace Rows
def none {H : Type} : Left H := { results := [], args := [] }

/-- 'codesearchlaw10.RegramLiterals': WHATEVER THE INPUT: true; the input reads as it did. -/
def regramLiteralsSpec : ChangeSpec := { name := "regramLiterals", fn := fun _ => fun
  | [d] => { results := [.lit (.bool true)], args := [d] }
  | _ => none }
def regramLiteralsRow : OpenClaim := { program := "ytlnbjdlooghpeaa", sum := "91378a54fca37bab64d6478bf0f3a30025737edd160b51e374364fb6bd1c6180", func := "codesearch/codesearchlaw10.RegramLiterals", spec := "regramLiterals", unfollowed := true, recurses := true, loops := true, apart := false }
def RegramLiteralsSaid : Prop := regramLiteralsRow.holds Try.pinned (OpenSpec.ofChange regramLiteralsSpec)

/-- ITS FALSE NEIGHBOUR: 'it returns false'. Refute it at one input. -/
def regramLiteralsWrong : ChangeSpec := { name := "regramLiterals", fn := fun _ => fun
  | [d] => { results := [.lit (.bool false)], args := [d] }
  | _ => none }
def RegramLiteralsWrongFalsely : Prop := regramLiteralsRow.holds Try.pinned (OpenSpec.ofChange regramLiteralsWrong)

/-- 'codesearchlaw10.RegramEvals': WHATEVER THE INPUT: true; the input reads as it did. -/
def regramEvalsSpec : ChangeSpec := { name := "regramEvals", fn := fun _ => fun
  | [d1, d2] => { results := [.lit (.bool true)], args := [d1, d2] }
  | _ => none }
def regramEvalsRow : OpenClaim := { program := "ytlnbjdlooghpeaa", sum := "91378a54fca37bab64d6478bf0f3a30025737edd160b51e374364fb6bd1c6180", func := "codesearch/codesearchlaw10.RegramEvals", spec := "regramEvals", unfollowed := true, recurses := true, loops := true, apart := false }
def RegramEvalsSaid : Prop := regramEvalsRow.holds Try.pinned (OpenSpec.ofChange regramEvalsSpec)

/-- ITS FALSE NEIGHBOUR: 'it returns false'. Refute it at one input. -/
def regramEvalsWrong : ChangeSpec := { name := "regramEvals", fn := fun _ => fun
  | [d1, d2] => { results := [.lit (.bool false)], args := [d1, d2] }
  | _ => none }
def RegramEvalsWrongFalsely : Prop := regramEvalsRow.holds Try.pinned (OpenSpec.ofChange regramEvalsWrong)

/-- 'codesearchlaw10.RegramSimplifies': WHATEVER THE INPUT: true; the input reads as it did. -/
def regramSimplifiesSpec : ChangeSpec := { name := "regramSimplifies", fn := fun _ => fun
  | [d1, d2] => { results := [.lit (.bool true)], args := [d1, d2] }
  | _ => none }
def regramSimplifiesRow : OpenClaim := { program := "ytlnbjdlooghpeaa", sum := "91378a54fca37bab64d6478bf0f3a30025737edd160b51e374364fb6bd1c6180", func := "codesearch/codesearchlaw10.RegramSimplifies", spec := "regramSimplifies", unfollowed := true, recurses := true, loops := true, apart := false }
def RegramSimplifiesSaid : Prop := regramSimplifiesRow.holds Try.pinned (OpenSpec.ofChange regramSimplifiesSpec)

/-- ITS FALSE NEIGHBOUR: 'it returns false'. Refute it at one input. -/
def regramSimplifiesWrong : ChangeSpec := { name := "regramSimplifies", fn := fun _ => fun
  | [d1, d2] => { results := [.lit (.bool false)], args := [d1, d2] }
  | _ => none }
def RegramSimplifiesWrongFalsely : Prop := regramSimplifiesRow.holds Try.pinned (OpenSpec.ofChange regramSimplifiesWrong)

/-- 'codesearchlaw10.RegramForms': WHATEVER THE INPUT: true; the input reads as it did. -/
def regramFormsSpec : ChangeSpec := { name := "regramForms", fn := fun _ => fun
  | [d1, d2] => { results := [.lit (.bool true)], args := [d1, d2] }
  | _ => none }
def regramFormsRow : OpenClaim := { program := "ytlnbjdlooghpeaa", sum := "91378a54fca37bab64d6478bf0f3a30025737edd160b51e374364fb6bd1c6180", func := "codesearch/codesearchlaw10.RegramForms", spec := "regramForms", unfollowed := true, recurses := true, loops := true, apart := false }
def RegramFormsSaid : Prop := regramFormsRow.holds Try.pinned (OpenSpec.ofChange regramFormsSpec)

/-- ITS FALSE NEIGHBOUR: 'it returns false'. Refute it at one input. -/
def regramFormsWrong : ChangeSpec := { name := "regramForms", fn := fun _ => fun
  | [d1, d2] => { results := [.lit (.bool false)], args := [d1, d2] }
  | _ => none }
def RegramFormsWrongFalsely : Prop := regramFormsRow.holds Try.pinned (OpenSpec.ofChange regramFormsWrong)

/-- 'codesearchlaw10.RegramFolds': WHATEVER THE INPUT: true; the input reads as it did. -/
def regramFoldsSpec : ChangeSpec := { name := "regramFolds", fn := fun _ => fun
  | [d] => { results := [.lit (.bool true)], args := [d] }
  | _ => none }
def regramFoldsRow : OpenClaim := { program := "ytlnbjdlooghpeaa", sum := "91378a54fca37bab64d6478bf0f3a30025737edd160b51e374364fb6bd1c6180", func := "codesearch/codesearchlaw10.RegramFolds", spec := "regramFolds", unfollowed := true, recurses := true, loops := true, apart := false }
def RegramFoldsSaid : Prop := regramFoldsRow.holds Try.pinned (OpenSpec.ofChange regramFoldsSpec)

/-- ITS FALSE NEIGHBOUR: 'it returns false'. Refute it at one input. -/
def regramFoldsWrong : ChangeSpec := { name := "regramFolds", fn := fun _ => fun
  | [d] => { results := [.lit (.bool false)], args := [d] }
  | _ => none }
def RegramFoldsWrongFalsely : Prop := regramFoldsRow.holds Try.pinned (OpenSpec.ofChange regramFoldsWrong)

/- THE SECOND FORM. 'bulk': how many values and letters a reading holds, each counted each time it is reached (what is shared counts as often as it is met; a slice's spare places count too). A statement '..UptoSaid' is the law's where the arguments, and the package variables that the reading takes, are together of bulk at most 1048576: NARROWER than '..Said'. Prove '..Said' where nothing that the law and all that it calls make is longer than what came in: it says more and counts as full. Else prove '..UptoSaid'. A law counts once. -/
mutual
def uptoBulk {H : Type} : DataW H → Nat
  | .lit (.string bytes) => bytes.length + 1
  | .lit _ => 1
  | .nil => 1
  | .ptr d => uptoBulk d + 1
  | .slice elems spare => uptoBulkAll elems + uptoBulkAll spare + 1
  | .agg parts => uptoBulkAll parts + 1
  | .iface _ d => uptoBulk d + 1
  | .map entries => uptoBulkEntries entries + 1
  | .held _ => 1
def uptoBulkAll {H : Type} : List (DataW H) → Nat
  | [] => 0
  | d :: r => uptoBulk d + uptoBulkAll r
def uptoBulkEntries {H : Type} : List (Lit × DataW H) → Nat
  | [] => 0
  | x :: r => uptoBulkEntry x + uptoBulkEntries r
def uptoBulkEntry {H : Type} : Lit × DataW H → Nat
  | (.string bytes, d) => bytes.length + uptoBulk d + 1
  | (_, d) => uptoBulk d + 1
 end
def uptoSmall : (H : Type) → List (DataW H) → Bool := fun _ ds => decide (uptoBulkAll ds ≤ 1048576)
def OpenSpec.upto (s : _root_.Go.ChangeSpec) : _root_.Go.OpenSpec := { _root_.Go.OpenSpec.ofChange s with cond := some uptoSmall }

/-- 'codesearchlaw10.RegramLiterals', WHERE WHAT IT READS IS OF BULK AT MOST 1048576: true; the input reads as it did. -/
def regramLiteralsUptoRow : OpenClaim := { program := "ytlnbjdlooghpeaa", sum := "91378a54fca37bab64d6478bf0f3a30025737edd160b51e374364fb6bd1c6180", func := "codesearch/codesearchlaw10.RegramLiterals", spec := "regramLiterals", unfollowed := true, recurses := true, loops := true, apart := false, narrowed := true }
def RegramLiteralsUptoSaid : Prop := regramLiteralsUptoRow.holds Try.pinned (OpenSpec.upto regramLiteralsSpec)

/-- 'codesearchlaw10.RegramEvals', WHERE WHAT IT READS IS OF BULK AT MOST 1048576: true; the input reads as it did. -/
def regramEvalsUptoRow : OpenClaim := { program := "ytlnbjdlooghpeaa", sum := "91378a54fca37bab64d6478bf0f3a30025737edd160b51e374364fb6bd1c6180", func := "codesearch/codesearchlaw10.RegramEvals", spec := "regramEvals", unfollowed := true, recurses := true, loops := true, apart := false, narrowed := true }
def RegramEvalsUptoSaid : Prop := regramEvalsUptoRow.holds Try.pinned (OpenSpec.upto regramEvalsSpec)

/-- 'codesearchlaw10.RegramSimplifies', WHERE WHAT IT READS IS OF BULK AT MOST 1048576: true; the input reads as it did. -/
def regramSimplifiesUptoRow : OpenClaim := { program := "ytlnbjdlooghpeaa", sum := "91378a54fca37bab64d6478bf0f3a30025737edd160b51e374364fb6bd1c6180", func := "codesearch/codesearchlaw10.RegramSimplifies", spec := "regramSimplifies", unfollowed := true, recurses := true, loops := true, apart := false, narrowed := true }
def RegramSimplifiesUptoSaid : Prop := regramSimplifiesUptoRow.holds Try.pinned (OpenSpec.upto regramSimplifiesSpec)

/-- 'codesearchlaw10.RegramForms', WHERE WHAT IT READS IS OF BULK AT MOST 1048576: true; the input reads as it did. -/
def regramFormsUptoRow : OpenClaim := { program := "ytlnbjdlooghpeaa", sum := "91378a54fca37bab64d6478bf0f3a30025737edd160b51e374364fb6bd1c6180", func := "codesearch/codesearchlaw10.RegramForms", spec := "regramForms", unfollowed := true, recurses := true, loops := true, apart := false, narrowed := true }
def RegramFormsUptoSaid : Prop := regramFormsUptoRow.holds Try.pinned (OpenSpec.upto regramFormsSpec)

/-- 'codesearchlaw10.RegramFolds', WHERE WHAT IT READS IS OF BULK AT MOST 1048576: true; the input reads as it did. -/
def regramFoldsUptoRow : OpenClaim := { program := "ytlnbjdlooghpeaa", sum := "91378a54fca37bab64d6478bf0f3a30025737edd160b51e374364fb6bd1c6180", func := "codesearch/codesearchlaw10.RegramFolds", spec := "regramFolds", unfollowed := true, recurses := true, loops := true, apart := false, narrowed := true }
def RegramFoldsUptoSaid : Prop := regramFoldsUptoRow.holds Try.pinned (OpenSpec.upto regramFoldsSpec)

end Rows
end Go.Proofs.Ytlnbjdlooghpeaa
