/-
  DERIVED. GIVEN WITH THE SEED: THE CARDS: each row of YtkghbhcjgogaeaaDoorRows.lean that lists a variable, with what it lists TIED to the program's text (the seventh form; the later family's looks); each row that meets fmt, with fmt's text TOLD by the authors' own Lean function (tested against real Go, not proved from fmt's source: count such statements apart). THE CARD IS WHAT COUNTS. Prove the row's statement (the work); the ties are given (YtkghbhcjgogaeaaDoorTie.lean); close each card by the builder's one call (the guide's Derived/Test/ToyasCard.lean, 'card_holds'). Laid BY PROGRAM, IN A SANDBOX (cutbox-door.mjs). By AI agents, Wed Nov 11 2026. No macro, syntax, notation, axiom, sorry.
-/
import Derived.Test.YtkghbhcjgogaeaaDoorRows
import GoSem.ClaimSeven
namespace Go.Proofs.YtkghbhcjgogaeaaDoor
namespace Rows

/-- THE TIED CARD OF 'codesearchlaw09.RegexecEnds'. -/
def regexecEndsCard : Claim7 := { stood := { row := regexecEndsRow, standIns := [], harness := (true, "f0d497dc089fd725a1710e85b7d07136826e03bb7adfe07106f956c83b2b238e"), looks := false }, kinds := [], alts := [], laidByText := true, laidKinds := [.data], laidTests := true, laidLooks := .later }
def RegexecEndsCardSaid : Prop := Claim7.holds Tryd.pinned (.plain (OpenSpec.ofChange regexecEndsSpec)) regexecEndsCard

/-- THE TIED CARD OF 'codesearchlaw09.RegexecFinds'. -/
def regexecFindsCard : Claim7 := { stood := { row := regexecFindsRow, standIns := [], harness := (true, "f0d497dc089fd725a1710e85b7d07136826e03bb7adfe07106f956c83b2b238e"), looks := false }, kinds := [], alts := [], laidByText := true, laidKinds := [.data], laidTests := true, laidLooks := .later }
def RegexecFindsCardSaid : Prop := Claim7.holds Tryd.pinned (.plain (OpenSpec.ofChange regexecFindsSpec)) regexecFindsCard

/-- THE TIED CARD OF 'codesearchlaw09.RegexecAlls'. -/
def regexecAllsCard : Claim7 := { stood := { row := regexecAllsRow, standIns := [], harness := (true, "f0d497dc089fd725a1710e85b7d07136826e03bb7adfe07106f956c83b2b238e"), looks := false }, kinds := [], alts := [], laidByText := true, laidKinds := [.data], laidTests := true, laidLooks := .later }
def RegexecAllsCardSaid : Prop := Claim7.holds Tryd.pinned (.plain (OpenSpec.ofChange regexecAllsSpec)) regexecAllsCard

/-- THE TIED CARD OF 'codesearchlaw09.RegexecFirst'. -/
def regexecFirstCard : Claim7 := { stood := { row := regexecFirstRow, standIns := [], harness := (true, "f0d497dc089fd725a1710e85b7d07136826e03bb7adfe07106f956c83b2b238e"), looks := false }, kinds := [], alts := [], laidByText := true, laidKinds := [.data], laidTests := true, laidLooks := .later }
def RegexecFirstCardSaid : Prop := Claim7.holds Tryd.pinned (.plain (OpenSpec.ofChange regexecFirstSpec)) regexecFirstCard

/-- THE TIED CARD OF 'codesearchlaw09.RegexecJoins'. -/
def regexecJoinsCard : Claim7 := { stood := { row := regexecJoinsRow, standIns := [], harness := (true, "f0d497dc089fd725a1710e85b7d07136826e03bb7adfe07106f956c83b2b238e"), looks := false }, kinds := [], alts := [], laidByText := true, laidKinds := [.data], laidTests := true, laidLooks := .later }
def RegexecJoinsCardSaid : Prop := Claim7.holds Tryd.pinned (.plain (OpenSpec.ofChange regexecJoinsSpec)) regexecJoinsCard

/-- THE TIED CARD OF 'codesearchlaw09.RegexecRepeats'. -/
def regexecRepeatsCard : Claim7 := { stood := { row := regexecRepeatsRow, standIns := [], harness := (true, "f0d497dc089fd725a1710e85b7d07136826e03bb7adfe07106f956c83b2b238e"), looks := false }, kinds := [], alts := [], laidByText := true, laidKinds := [.data], laidTests := true, laidLooks := .later }
def RegexecRepeatsCardSaid : Prop := Claim7.holds Tryd.pinned (.plain (OpenSpec.ofChange regexecRepeatsSpec)) regexecRepeatsCard

/-- THE TIED CARD OF 'codesearchlaw09.RegexecApart'. -/
def regexecApartCard : Claim7 := { stood := { row := regexecApartRow, standIns := [], harness := (true, "f0d497dc089fd725a1710e85b7d07136826e03bb7adfe07106f956c83b2b238e"), looks := false }, kinds := [], alts := [], laidByText := true, laidKinds := [.data], laidTests := true, laidLooks := .later }
def RegexecApartCardSaid : Prop := Claim7.holds Tryd.pinned (.plain (OpenSpec.ofChange regexecApartSpec)) regexecApartCard

/-- THE SECOND FORM's CARD OF 'codesearchlaw09.RegexecEnds'. -/
def regexecEndsUptoCard : Claim7 := { stood := { row := regexecEndsUptoRow, standIns := [], harness := (true, "f0d497dc089fd725a1710e85b7d07136826e03bb7adfe07106f956c83b2b238e"), looks := false }, kinds := [], alts := [], laidByText := true, laidKinds := [.data], laidTests := true, laidLooks := .later }
def RegexecEndsUptoCardSaid : Prop := Claim7.holds Tryd.pinned (.plain (OpenSpec.upto regexecEndsSpec)) regexecEndsUptoCard

/-- THE SECOND FORM's CARD OF 'codesearchlaw09.RegexecFinds'. -/
def regexecFindsUptoCard : Claim7 := { stood := { row := regexecFindsUptoRow, standIns := [], harness := (true, "f0d497dc089fd725a1710e85b7d07136826e03bb7adfe07106f956c83b2b238e"), looks := false }, kinds := [], alts := [], laidByText := true, laidKinds := [.data], laidTests := true, laidLooks := .later }
def RegexecFindsUptoCardSaid : Prop := Claim7.holds Tryd.pinned (.plain (OpenSpec.upto regexecFindsSpec)) regexecFindsUptoCard

/-- THE SECOND FORM's CARD OF 'codesearchlaw09.RegexecAlls'. -/
def regexecAllsUptoCard : Claim7 := { stood := { row := regexecAllsUptoRow, standIns := [], harness := (true, "f0d497dc089fd725a1710e85b7d07136826e03bb7adfe07106f956c83b2b238e"), looks := false }, kinds := [], alts := [], laidByText := true, laidKinds := [.data], laidTests := true, laidLooks := .later }
def RegexecAllsUptoCardSaid : Prop := Claim7.holds Tryd.pinned (.plain (OpenSpec.upto regexecAllsSpec)) regexecAllsUptoCard

/-- THE SECOND FORM's CARD OF 'codesearchlaw09.RegexecFirst'. -/
def regexecFirstUptoCard : Claim7 := { stood := { row := regexecFirstUptoRow, standIns := [], harness := (true, "f0d497dc089fd725a1710e85b7d07136826e03bb7adfe07106f956c83b2b238e"), looks := false }, kinds := [], alts := [], laidByText := true, laidKinds := [.data], laidTests := true, laidLooks := .later }
def RegexecFirstUptoCardSaid : Prop := Claim7.holds Tryd.pinned (.plain (OpenSpec.upto regexecFirstSpec)) regexecFirstUptoCard

/-- THE SECOND FORM's CARD OF 'codesearchlaw09.RegexecJoins'. -/
def regexecJoinsUptoCard : Claim7 := { stood := { row := regexecJoinsUptoRow, standIns := [], harness := (true, "f0d497dc089fd725a1710e85b7d07136826e03bb7adfe07106f956c83b2b238e"), looks := false }, kinds := [], alts := [], laidByText := true, laidKinds := [.data], laidTests := true, laidLooks := .later }
def RegexecJoinsUptoCardSaid : Prop := Claim7.holds Tryd.pinned (.plain (OpenSpec.upto regexecJoinsSpec)) regexecJoinsUptoCard

/-- THE SECOND FORM's CARD OF 'codesearchlaw09.RegexecRepeats'. -/
def regexecRepeatsUptoCard : Claim7 := { stood := { row := regexecRepeatsUptoRow, standIns := [], harness := (true, "f0d497dc089fd725a1710e85b7d07136826e03bb7adfe07106f956c83b2b238e"), looks := false }, kinds := [], alts := [], laidByText := true, laidKinds := [.data], laidTests := true, laidLooks := .later }
def RegexecRepeatsUptoCardSaid : Prop := Claim7.holds Tryd.pinned (.plain (OpenSpec.upto regexecRepeatsSpec)) regexecRepeatsUptoCard

/-- THE SECOND FORM's CARD OF 'codesearchlaw09.RegexecApart'. -/
def regexecApartUptoCard : Claim7 := { stood := { row := regexecApartUptoRow, standIns := [], harness := (true, "f0d497dc089fd725a1710e85b7d07136826e03bb7adfe07106f956c83b2b238e"), looks := false }, kinds := [], alts := [], laidByText := true, laidKinds := [.data], laidTests := true, laidLooks := .later }
def RegexecApartUptoCardSaid : Prop := Claim7.holds Tryd.pinned (.plain (OpenSpec.upto regexecApartSpec)) regexecApartUptoCard
end Rows
end Go.Proofs.YtkghbhcjgogaeaaDoor
