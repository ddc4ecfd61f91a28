/-
  DERIVED. GIVEN WITH THE SEED: THE CARDS: each row of YtmcahmnldpmkbaaDoorRows.lean that lists a variable, with what it lists TIED to the program's text (the seventh form; the later family's looks); each row that meets fmt, with fmt's text TOLD by the authors' own Lean function (tested against real Go, not proved from fmt's source: count such statements apart). THE CARD IS WHAT COUNTS. Prove the row's statement (the work); the ties are given (YtmcahmnldpmkbaaDoorTie.lean); close each card by the builder's one call (the guide's Derived/Test/ToyasCard.lean, 'card_holds'). Laid BY PROGRAM, IN A SANDBOX (cutbox-door.mjs). By AI agents, Wed Nov 11 2026. No macro, syntax, notation, axiom, sorry.
-/
import Derived.Test.YtmcahmnldpmkbaaDoorRows
import GoSem.ClaimSeven
namespace Go.Proofs.YtmcahmnldpmkbaaDoor
namespace Rows

/-- THE TIED CARD OF 'parcloselaw02.SumTells'. -/
def sumTellsCard : Claim7 := { stood := { row := sumTellsRow, standIns := [], harness := (true, "d7d29753b7b5cad3e7dc29835ebd291a4fad0b45eb8dcf2e7413b2d08c7d8de8"), looks := false }, kinds := [], alts := [], laidByText := true, laidKinds := [.data], laidTests := true, laidLooks := .later }
def SumTellsCardSaid : Prop := Claim7.holds Tryd.pinned (.plain (OpenSpec.ofChange sumTellsSpec)) sumTellsCard

/-- THE TIED CARD OF 'parcloselaw02.SumSeals'. -/
def sumSealsCard : Claim7 := { stood := { row := sumSealsRow, standIns := [], harness := (true, "d7d29753b7b5cad3e7dc29835ebd291a4fad0b45eb8dcf2e7413b2d08c7d8de8"), looks := false }, kinds := [], alts := [], laidByText := true, laidKinds := [.data], laidTests := true, laidLooks := .later }
def SumSealsCardSaid : Prop := Claim7.holds Tryd.pinned (.plain (OpenSpec.ofChange sumSealsSpec)) sumSealsCard

/-- THE TIED CARD OF 'parcloselaw02.SumTurned'. -/
def sumTurnedCard : Claim7 := { stood := { row := sumTurnedRow, standIns := [], harness := (true, "d7d29753b7b5cad3e7dc29835ebd291a4fad0b45eb8dcf2e7413b2d08c7d8de8"), looks := false }, kinds := [], alts := [], laidByText := true, laidKinds := [.data], laidTests := true, laidLooks := .later }
def SumTurnedCardSaid : Prop := Claim7.holds Tryd.pinned (.plain (OpenSpec.ofChange sumTurnedSpec)) sumTurnedCard

/-- THE TIED CARD OF 'parcloselaw02.SumGoes'. -/
def sumGoesCard : Claim7 := { stood := { row := sumGoesRow, standIns := [], harness := (true, "d7d29753b7b5cad3e7dc29835ebd291a4fad0b45eb8dcf2e7413b2d08c7d8de8"), looks := false }, kinds := [], alts := [], laidByText := true, laidKinds := [.data], laidTests := true, laidLooks := .later }
def SumGoesCardSaid : Prop := Claim7.holds Tryd.pinned (.plain (OpenSpec.ofChange sumGoesSpec)) sumGoesCard

/-- THE TIED CARD OF 'parcloselaw02.SumParts'. -/
def sumPartsCard : Claim7 := { stood := { row := sumPartsRow, standIns := [], harness := (true, "d7d29753b7b5cad3e7dc29835ebd291a4fad0b45eb8dcf2e7413b2d08c7d8de8"), looks := false }, kinds := [], alts := [], laidByText := true, laidKinds := [.data], laidTests := true, laidLooks := .later }
def SumPartsCardSaid : Prop := Claim7.holds Tryd.pinned (.plain (OpenSpec.ofChange sumPartsSpec)) sumPartsCard

/-- THE SECOND FORM's CARD OF 'parcloselaw02.SumTells'. -/
def sumTellsUptoCard : Claim7 := { stood := { row := sumTellsUptoRow, standIns := [], harness := (true, "d7d29753b7b5cad3e7dc29835ebd291a4fad0b45eb8dcf2e7413b2d08c7d8de8"), looks := false }, kinds := [], alts := [], laidByText := true, laidKinds := [.data], laidTests := true, laidLooks := .later }
def SumTellsUptoCardSaid : Prop := Claim7.holds Tryd.pinned (.plain (OpenSpec.upto sumTellsSpec)) sumTellsUptoCard

/-- THE SECOND FORM's CARD OF 'parcloselaw02.SumSeals'. -/
def sumSealsUptoCard : Claim7 := { stood := { row := sumSealsUptoRow, standIns := [], harness := (true, "d7d29753b7b5cad3e7dc29835ebd291a4fad0b45eb8dcf2e7413b2d08c7d8de8"), looks := false }, kinds := [], alts := [], laidByText := true, laidKinds := [.data], laidTests := true, laidLooks := .later }
def SumSealsUptoCardSaid : Prop := Claim7.holds Tryd.pinned (.plain (OpenSpec.upto sumSealsSpec)) sumSealsUptoCard

/-- THE SECOND FORM's CARD OF 'parcloselaw02.SumTurned'. -/
def sumTurnedUptoCard : Claim7 := { stood := { row := sumTurnedUptoRow, standIns := [], harness := (true, "d7d29753b7b5cad3e7dc29835ebd291a4fad0b45eb8dcf2e7413b2d08c7d8de8"), looks := false }, kinds := [], alts := [], laidByText := true, laidKinds := [.data], laidTests := true, laidLooks := .later }
def SumTurnedUptoCardSaid : Prop := Claim7.holds Tryd.pinned (.plain (OpenSpec.upto sumTurnedSpec)) sumTurnedUptoCard

/-- THE SECOND FORM's CARD OF 'parcloselaw02.SumGoes'. -/
def sumGoesUptoCard : Claim7 := { stood := { row := sumGoesUptoRow, standIns := [], harness := (true, "d7d29753b7b5cad3e7dc29835ebd291a4fad0b45eb8dcf2e7413b2d08c7d8de8"), looks := false }, kinds := [], alts := [], laidByText := true, laidKinds := [.data], laidTests := true, laidLooks := .later }
def SumGoesUptoCardSaid : Prop := Claim7.holds Tryd.pinned (.plain (OpenSpec.upto sumGoesSpec)) sumGoesUptoCard

/-- THE SECOND FORM's CARD OF 'parcloselaw02.SumParts'. -/
def sumPartsUptoCard : Claim7 := { stood := { row := sumPartsUptoRow, standIns := [], harness := (true, "d7d29753b7b5cad3e7dc29835ebd291a4fad0b45eb8dcf2e7413b2d08c7d8de8"), looks := false }, kinds := [], alts := [], laidByText := true, laidKinds := [.data], laidTests := true, laidLooks := .later }
def SumPartsUptoCardSaid : Prop := Claim7.holds Tryd.pinned (.plain (OpenSpec.upto sumPartsSpec)) sumPartsUptoCard
end Rows
end Go.Proofs.YtmcahmnldpmkbaaDoor
