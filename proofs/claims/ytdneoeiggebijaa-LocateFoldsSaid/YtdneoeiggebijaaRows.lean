/-
  No cell of these rows narrows 'for every input' (looked for: loops, veiled, ifaces, maps, wideKeys, modest, calm, conditions, laid).
  DERIVED. THE GIVEN ROWS OF THIS SEAT. 7 by the template 'for every input the law returns true; each argument reads behind the call as it read before'; 0 by the template 'total and deterministic' (their statements: YtdneoeiggebijaaTotals.lean).
  GIVEN WITH THE SEED: the statements are not yours to turn. If you find one false, say at which input.
  Laid BY PROGRAM, IN A SANDBOX (cutbox-rows.mjs): the forced cells as the released guide's own fill.sh prints them over the translation 5905b552135e8cfb… (all of the seat's roots in one cut). By AI agents, Wed Nov 11 2026. No macro, syntax, notation, axiom, sorry.
-/
import Derived.Test.YtdneoeiggebijaaChecked
import GoSem.Claim
import GoSem.ClaimJoined
import GoSem.ClaimMapViews
import Derived.JoinedTies
import Derived.KernelRfl
namespace Go.Proofs.Ytdneoeiggebijaa
/- THE CELL 'sum', in the pinned program and in every row, IS THE sha256 OF THE DUMP (.gsa) THAT YtdneoeiggebijaaProg.lean LOADS. Nothing in Lean hashes anything: it is a label: what it is worth is what the hold of that sum in a sandbox is worth. -/
noncomputable def Try.pinned : Pinned := { name := "ytdneoeiggebijaa", sum := "5905b552135e8cfb5e5ff14629ab8ed6242cfac63e2ecf32430beec4762cd3f6", checked := Try.checked }
namespace Rows
def none {H : Type} : Left H := { results := [], args := [] }

/-- 'codesearchlaw07.LocateFinds': WHATEVER THE INPUT: true; the input reads as it did. -/
def locateFindsSpec : ChangeSpec := { name := "locateFinds", fn := fun _ => fun
  | [d1, d2, d3] => { results := [.lit (.bool true)], args := [d1, d2, d3] }
  | _ => none }
def locateFindsRow : OpenClaim := { program := "ytdneoeiggebijaa", sum := "5905b552135e8cfb5e5ff14629ab8ed6242cfac63e2ecf32430beec4762cd3f6", func := "codesearch/codesearchlaw07.LocateFinds", spec := "locateFinds", unfollowed := true, recurses := true, apart := false }
def LocateFindsSaid : Prop := locateFindsRow.holds Try.pinned (OpenSpec.ofChange locateFindsSpec)

/-- ITS FALSE NEIGHBOUR: 'it returns false'. Refute it at one input. -/
def locateFindsWrong : ChangeSpec := { name := "locateFinds", fn := fun _ => fun
  | [d1, d2, d3] => { results := [.lit (.bool false)], args := [d1, d2, d3] }
  | _ => none }
def LocateFindsWrongFalsely : Prop := locateFindsRow.holds Try.pinned (OpenSpec.ofChange locateFindsWrong)

/-- 'codesearchlaw07.LocateCodes': WHATEVER THE INPUT: true; the input reads as it did. -/
def locateCodesSpec : ChangeSpec := { name := "locateCodes", fn := fun _ => fun
  | [d1, d2] => { results := [.lit (.bool true)], args := [d1, d2] }
  | _ => none }
def locateCodesRow : OpenClaim := { program := "ytdneoeiggebijaa", sum := "5905b552135e8cfb5e5ff14629ab8ed6242cfac63e2ecf32430beec4762cd3f6", func := "codesearch/codesearchlaw07.LocateCodes", spec := "locateCodes", unfollowed := true, recurses := true, apart := false }
def LocateCodesSaid : Prop := locateCodesRow.holds Try.pinned (OpenSpec.ofChange locateCodesSpec)

/-- ITS FALSE NEIGHBOUR: 'it returns false'. Refute it at one input. -/
def locateCodesWrong : ChangeSpec := { name := "locateCodes", fn := fun _ => fun
  | [d1, d2] => { results := [.lit (.bool false)], args := [d1, d2] }
  | _ => none }
def LocateCodesWrongFalsely : Prop := locateCodesRow.holds Try.pinned (OpenSpec.ofChange locateCodesWrong)

/-- 'codesearchlaw07.LocateCandidates': WHATEVER THE INPUT: true; the input reads as it did. -/
def locateCandidatesSpec : ChangeSpec := { name := "locateCandidates", fn := fun _ => fun
  | [d1, d2] => { results := [.lit (.bool true)], args := [d1, d2] }
  | _ => none }
def locateCandidatesRow : OpenClaim := { program := "ytdneoeiggebijaa", sum := "5905b552135e8cfb5e5ff14629ab8ed6242cfac63e2ecf32430beec4762cd3f6", func := "codesearch/codesearchlaw07.LocateCandidates", spec := "locateCandidates", unfollowed := true, recurses := true, apart := false }
def LocateCandidatesSaid : Prop := locateCandidatesRow.holds Try.pinned (OpenSpec.ofChange locateCandidatesSpec)

/-- ITS FALSE NEIGHBOUR: 'it returns false'. Refute it at one input. -/
def locateCandidatesWrong : ChangeSpec := { name := "locateCandidates", fn := fun _ => fun
  | [d1, d2] => { results := [.lit (.bool false)], args := [d1, d2] }
  | _ => none }
def LocateCandidatesWrongFalsely : Prop := locateCandidatesRow.holds Try.pinned (OpenSpec.ofChange locateCandidatesWrong)

/-- 'codesearchlaw07.LocateExact': WHATEVER THE INPUT: true; the input reads as it did. -/
def locateExactSpec : ChangeSpec := { name := "locateExact", fn := fun _ => fun
  | [d1, d2] => { results := [.lit (.bool true)], args := [d1, d2] }
  | _ => none }
def locateExactRow : OpenClaim := { program := "ytdneoeiggebijaa", sum := "5905b552135e8cfb5e5ff14629ab8ed6242cfac63e2ecf32430beec4762cd3f6", func := "codesearch/codesearchlaw07.LocateExact", spec := "locateExact", unfollowed := true, recurses := true, apart := false }
def LocateExactSaid : Prop := locateExactRow.holds Try.pinned (OpenSpec.ofChange locateExactSpec)

/-- ITS FALSE NEIGHBOUR: 'it returns false'. Refute it at one input. -/
def locateExactWrong : ChangeSpec := { name := "locateExact", fn := fun _ => fun
  | [d1, d2] => { results := [.lit (.bool false)], args := [d1, d2] }
  | _ => none }
def LocateExactWrongFalsely : Prop := locateExactRow.holds Try.pinned (OpenSpec.ofChange locateExactWrong)

/-- 'codesearchlaw07.LocateNeeds': WHATEVER THE INPUT: true; the input reads as it did. -/
def locateNeedsSpec : ChangeSpec := { name := "locateNeeds", fn := fun _ => fun
  | [d1, d2, d3] => { results := [.lit (.bool true)], args := [d1, d2, d3] }
  | _ => none }
def locateNeedsRow : OpenClaim := { program := "ytdneoeiggebijaa", sum := "5905b552135e8cfb5e5ff14629ab8ed6242cfac63e2ecf32430beec4762cd3f6", func := "codesearch/codesearchlaw07.LocateNeeds", spec := "locateNeeds", unfollowed := true, recurses := true, apart := false }
def LocateNeedsSaid : Prop := locateNeedsRow.holds Try.pinned (OpenSpec.ofChange locateNeedsSpec)

/-- ITS FALSE NEIGHBOUR: 'it returns false'. Refute it at one input. -/
def locateNeedsWrong : ChangeSpec := { name := "locateNeeds", fn := fun _ => fun
  | [d1, d2, d3] => { results := [.lit (.bool false)], args := [d1, d2, d3] }
  | _ => none }
def LocateNeedsWrongFalsely : Prop := locateNeedsRow.holds Try.pinned (OpenSpec.ofChange locateNeedsWrong)

/-- 'codesearchlaw07.LocateFolds': WHATEVER THE INPUT: true; the input reads as it did. -/
def locateFoldsSpec : ChangeSpec := { name := "locateFolds", fn := fun _ => fun
  | [d1, d2] => { results := [.lit (.bool true)], args := [d1, d2] }
  | _ => none }
def locateFoldsRow : OpenClaim := { program := "ytdneoeiggebijaa", sum := "5905b552135e8cfb5e5ff14629ab8ed6242cfac63e2ecf32430beec4762cd3f6", func := "codesearch/codesearchlaw07.LocateFolds", spec := "locateFolds", unfollowed := true, recurses := true, apart := false }
def LocateFoldsSaid : Prop := locateFoldsRow.holds Try.pinned (OpenSpec.ofChange locateFoldsSpec)

/-- ITS FALSE NEIGHBOUR: 'it returns false'. Refute it at one input. -/
def locateFoldsWrong : ChangeSpec := { name := "locateFolds", fn := fun _ => fun
  | [d1, d2] => { results := [.lit (.bool false)], args := [d1, d2] }
  | _ => none }
def LocateFoldsWrongFalsely : Prop := locateFoldsRow.holds Try.pinned (OpenSpec.ofChange locateFoldsWrong)

/-- 'codesearchlaw07.LocateApart': WHATEVER THE INPUT: true; the input reads as it did. -/
def locateApartSpec : ChangeSpec := { name := "locateApart", fn := fun _ => fun
  | [d1, d2, d3] => { results := [.lit (.bool true)], args := [d1, d2, d3] }
  | _ => none }
def locateApartRow : OpenClaim := { program := "ytdneoeiggebijaa", sum := "5905b552135e8cfb5e5ff14629ab8ed6242cfac63e2ecf32430beec4762cd3f6", func := "codesearch/codesearchlaw07.LocateApart", spec := "locateApart", unfollowed := true, recurses := true, apart := false }
def LocateApartSaid : Prop := locateApartRow.holds Try.pinned (OpenSpec.ofChange locateApartSpec)

/-- ITS FALSE NEIGHBOUR: 'it returns false'. Refute it at one input. -/
def locateApartWrong : ChangeSpec := { name := "locateApart", fn := fun _ => fun
  | [d1, d2, d3] => { results := [.lit (.bool false)], args := [d1, d2, d3] }
  | _ => none }
def LocateApartWrongFalsely : Prop := locateApartRow.holds Try.pinned (OpenSpec.ofChange locateApartWrong)

/- THE SECOND FORM. 'bulk': how many values and letters a reading holds, each counted each time it is reached (what is shared counts as often as it is met; a slice's spare places count too). A statement '..UptoSaid' is the law's where the arguments, and the package variables that the reading takes, are together of bulk at most 1048576: NARROWER than '..Said'. Prove '..Said' where nothing that the law and all that it calls make is longer than what came in: it says more and counts as full. Else prove '..UptoSaid'. A law counts once. -/
mutual
def uptoBulk {H : Type} : DataW H → Nat
  | .lit (.string bytes) => bytes.length + 1
  | .lit _ => 1
  | .nil => 1
  | .ptr d => uptoBulk d + 1
  | .slice elems spare => uptoBulkAll elems + uptoBulkAll spare + 1
  | .agg parts => uptoBulkAll parts + 1
  | .iface _ d => uptoBulk d + 1
  | .map entries => uptoBulkEntries entries + 1
  | .held _ => 1
def uptoBulkAll {H : Type} : List (DataW H) → Nat
  | [] => 0
  | d :: r => uptoBulk d + uptoBulkAll r
def uptoBulkEntries {H : Type} : List (Lit × DataW H) → Nat
  | [] => 0
  | x :: r => uptoBulkEntry x + uptoBulkEntries r
def uptoBulkEntry {H : Type} : Lit × DataW H → Nat
  | (.string bytes, d) => bytes.length + uptoBulk d + 1
  | (_, d) => uptoBulk d + 1
 end
def uptoSmall : (H : Type) → List (DataW H) → Bool := fun _ ds => decide (uptoBulkAll ds ≤ 1048576)
def OpenSpec.upto (s : _root_.Go.ChangeSpec) : _root_.Go.OpenSpec := { _root_.Go.OpenSpec.ofChange s with cond := some uptoSmall }

/-- 'codesearchlaw07.LocateFinds', WHERE WHAT IT READS IS OF BULK AT MOST 1048576: true; the input reads as it did. -/
def locateFindsUptoRow : OpenClaim := { program := "ytdneoeiggebijaa", sum := "5905b552135e8cfb5e5ff14629ab8ed6242cfac63e2ecf32430beec4762cd3f6", func := "codesearch/codesearchlaw07.LocateFinds", spec := "locateFinds", unfollowed := true, recurses := true, apart := false, narrowed := true }
def LocateFindsUptoSaid : Prop := locateFindsUptoRow.holds Try.pinned (OpenSpec.upto locateFindsSpec)

/-- 'codesearchlaw07.LocateCodes', WHERE WHAT IT READS IS OF BULK AT MOST 1048576: true; the input reads as it did. -/
def locateCodesUptoRow : OpenClaim := { program := "ytdneoeiggebijaa", sum := "5905b552135e8cfb5e5ff14629ab8ed6242cfac63e2ecf32430beec4762cd3f6", func := "codesearch/codesearchlaw07.LocateCodes", spec := "locateCodes", unfollowed := true, recurses := true, apart := false, narrowed := true }
def LocateCodesUptoSaid : Prop := locateCodesUptoRow.holds Try.pinned (OpenSpec.upto locateCodesSpec)

/-- 'codesearchlaw07.LocateCandidates', WHERE WHAT IT READS IS OF BULK AT MOST 1048576: true; the input reads as it did. -/
def locateCandidatesUptoRow : OpenClaim := { program := "ytdneoeiggebijaa", sum := "5905b552135e8cfb5e5ff14629ab8ed6242cfac63e2ecf32430beec4762cd3f6", func := "codesearch/codesearchlaw07.LocateCandidates", spec := "locateCandidates", unfollowed := true, recurses := true, apart := false, narrowed := true }
def LocateCandidatesUptoSaid : Prop := locateCandidatesUptoRow.holds Try.pinned (OpenSpec.upto locateCandidatesSpec)

/-- 'codesearchlaw07.LocateExact', WHERE WHAT IT READS IS OF BULK AT MOST 1048576: true; the input reads as it did. -/
def locateExactUptoRow : OpenClaim := { program := "ytdneoeiggebijaa", sum := "5905b552135e8cfb5e5ff14629ab8ed6242cfac63e2ecf32430beec4762cd3f6", func := "codesearch/codesearchlaw07.LocateExact", spec := "locateExact", unfollowed := true, recurses := true, apart := false, narrowed := true }
def LocateExactUptoSaid : Prop := locateExactUptoRow.holds Try.pinned (OpenSpec.upto locateExactSpec)

/-- 'codesearchlaw07.LocateNeeds', WHERE WHAT IT READS IS OF BULK AT MOST 1048576: true; the input reads as it did. -/
def locateNeedsUptoRow : OpenClaim := { program := "ytdneoeiggebijaa", sum := "5905b552135e8cfb5e5ff14629ab8ed6242cfac63e2ecf32430beec4762cd3f6", func := "codesearch/codesearchlaw07.LocateNeeds", spec := "locateNeeds", unfollowed := true, recurses := true, apart := false, narrowed := true }
def LocateNeedsUptoSaid : Prop := locateNeedsUptoRow.holds Try.pinned (OpenSpec.upto locateNeedsSpec)

/-- 'codesearchlaw07.LocateFolds', WHERE WHAT IT READS IS OF BULK AT MOST 1048576: true; the input reads as it did. -/
def locateFoldsUptoRow : OpenClaim := { program := "ytdneoeiggebijaa", sum := "5905b552135e8cfb5e5ff14629ab8ed6242cfac63e2ecf32430beec4762cd3f6", func := "codesearch/codesearchlaw07.LocateFolds", spec := "locateFolds", unfollowed := true, recurses := true, apart := false, narrowed := true }
def LocateFoldsUptoSaid : Prop := locateFoldsUptoRow.holds Try.pinned (OpenSpec.upto locateFoldsSpec)

/-- 'codesearchlaw07.LocateApart', WHERE WHAT IT READS IS OF BULK AT MOST 1048576: true; the input reads as it did. -/
def locateApartUptoRow : OpenClaim := { program := "ytdneoeiggebijaa", sum := "5905b552135e8cfb5e5ff14629ab8ed6242cfac63e2ecf32430beec4762cd3f6", func := "codesearch/codesearchlaw07.LocateApart", spec := "locateApart", unfollowed := true, recurses := true, apart := false, narrowed := true }
def LocateApartUptoSaid : Prop := locateApartUptoRow.holds Try.pinned (OpenSpec.upto locateApartSpec)

end Rows
end Go.Proofs.Ytdneoeiggebijaa
