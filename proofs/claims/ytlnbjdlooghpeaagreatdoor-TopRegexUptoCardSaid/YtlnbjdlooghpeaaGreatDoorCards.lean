/-
  DERIVED. GIVEN WITH THE SEED: THE CARDS: each row of YtlnbjdlooghpeaaGreatDoorRows.lean that lists a variable, with what it lists TIED to the program's text (the seventh form; the later family's looks); each row that meets fmt, with fmt's text TOLD by the authors' own Lean function (tested against real Go, not proved from fmt's source: count such statements apart). THE CARD IS WHAT COUNTS. Prove the row's statement (the work); the ties are given (YtlnbjdlooghpeaaGreatDoorTie.lean); close each card by the builder's one call (the guide's Derived/Test/ToyasCard.lean, 'card_holds'). Laid BY PROGRAM, IN A SANDBOX (cutbox-door.mjs). By AI agents, Wed Nov 11 2026. No macro, syntax, notation, axiom, sorry.
-/
import Derived.Test.YtlnbjdlooghpeaaGreatDoorRows
import GoSem.ClaimSeven
namespace Go.Proofs.YtlnbjdlooghpeaaGreatDoor
namespace Rows

/-- THE TIED CARD OF 'codesearchlaw10.RegramSound'. -/
def regramSoundCard : Claim7 := { stood := { row := regramSoundRow, standIns := [], harness := (true, "90a167ff8e7773c9bbc2bf0638f96056841655deac06ffd5ab500ced98d17122"), looks := false }, kinds := [], alts := [], laidByText := true, laidKinds := [.data], laidTests := true, laidLooks := .later }
def RegramSoundCardSaid : Prop := Claim7.holds Tryz.pinned (.plain (OpenSpec.ofChange regramSoundSpec)) regramSoundCard

/-- THE TIED CARD OF 'codesearchlaw10.RegramWhole'. -/
def regramWholeCard : Claim7 := { stood := { row := regramWholeRow, standIns := [], harness := (true, "90a167ff8e7773c9bbc2bf0638f96056841655deac06ffd5ab500ced98d17122"), looks := false }, kinds := [], alts := [], laidByText := true, laidKinds := [.data], laidTests := true, laidLooks := .later }
def RegramWholeCardSaid : Prop := Claim7.holds Tryz.pinned (.plain (OpenSpec.ofChange regramWholeSpec)) regramWholeCard

/-- THE TIED CARD OF 'codesearchtop.TopRegex'. -/
def topRegexCard : Claim7 := { stood := { row := topRegexRow, standIns := [], harness := (true, "90a167ff8e7773c9bbc2bf0638f96056841655deac06ffd5ab500ced98d17122"), looks := false }, kinds := [], alts := [], laidByText := true, laidKinds := [.data], laidTests := true, laidLooks := .later }
def TopRegexCardSaid : Prop := Claim7.holds Tryz.pinned (.plain (OpenSpec.ofChange topRegexSpec)) topRegexCard

/-- THE SECOND FORM's CARD OF 'codesearchlaw10.RegramSound'. -/
def regramSoundUptoCard : Claim7 := { stood := { row := regramSoundUptoRow, standIns := [], harness := (true, "90a167ff8e7773c9bbc2bf0638f96056841655deac06ffd5ab500ced98d17122"), looks := false }, kinds := [], alts := [], laidByText := true, laidKinds := [.data], laidTests := true, laidLooks := .later }
def RegramSoundUptoCardSaid : Prop := Claim7.holds Tryz.pinned (.plain (OpenSpec.upto regramSoundSpec)) regramSoundUptoCard

/-- THE SECOND FORM's CARD OF 'codesearchlaw10.RegramWhole'. -/
def regramWholeUptoCard : Claim7 := { stood := { row := regramWholeUptoRow, standIns := [], harness := (true, "90a167ff8e7773c9bbc2bf0638f96056841655deac06ffd5ab500ced98d17122"), looks := false }, kinds := [], alts := [], laidByText := true, laidKinds := [.data], laidTests := true, laidLooks := .later }
def RegramWholeUptoCardSaid : Prop := Claim7.holds Tryz.pinned (.plain (OpenSpec.upto regramWholeSpec)) regramWholeUptoCard

/-- THE SECOND FORM's CARD OF 'codesearchtop.TopRegex'. -/
def topRegexUptoCard : Claim7 := { stood := { row := topRegexUptoRow, standIns := [], harness := (true, "90a167ff8e7773c9bbc2bf0638f96056841655deac06ffd5ab500ced98d17122"), looks := false }, kinds := [], alts := [], laidByText := true, laidKinds := [.data], laidTests := true, laidLooks := .later }
def TopRegexUptoCardSaid : Prop := Claim7.holds Tryz.pinned (.plain (OpenSpec.upto topRegexSpec)) topRegexUptoCard
end Rows
end Go.Proofs.YtlnbjdlooghpeaaGreatDoor
