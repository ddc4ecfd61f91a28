/-
  DERIVED. GIVEN WITH THE SEED: THE CARDS: each row of YtaafchcpnceddaaDoorRows.lean that lists a variable, with what it lists TIED to the program's text (the seventh form; the later family's looks); each row that meets fmt, with fmt's text TOLD by the authors' own Lean function (tested against real Go, not proved from fmt's source: count such statements apart). THE CARD IS WHAT COUNTS. Prove the row's statement (the work); the ties are given (YtaafchcpnceddaaDoorTie.lean); close each card by the builder's one call (the guide's Derived/Test/ToyasCard.lean, 'card_holds'). Laid BY PROGRAM, IN A SANDBOX (cutbox-door.mjs). By AI agents, Wed Nov 11 2026. No macro, syntax, notation, axiom, sorry.
-/
import Derived.Test.YtaafchcpnceddaaDoorRows
import GoSem.ClaimSeven
namespace Go.Proofs.YtaafchcpnceddaaDoor
namespace Rows

/-- THE TIED CARD OF 'parcloselaw15.PoolTakes'. -/
def poolTakesCard : Claim7 := { stood := { row := poolTakesRow, standIns := [], harness := (true, "cae7b272f9f65cc7222677ec06566236edb87ab69217a6aa73a4e624939c832a"), looks := false }, kinds := [], alts := [], laidByText := true, laidKinds := [.data], laidTests := true, laidLooks := .later }
def PoolTakesCardSaid : Prop := Claim7.holds Tryd.pinned (.plain (OpenSpec.ofChange poolTakesSpec)) poolTakesCard

/-- THE TIED CARD OF 'parcloselaw15.PoolDrops'. -/
def poolDropsCard : Claim7 := { stood := { row := poolDropsRow, standIns := [], harness := (true, "cae7b272f9f65cc7222677ec06566236edb87ab69217a6aa73a4e624939c832a"), looks := false }, kinds := [], alts := [], laidByText := true, laidKinds := [.data], laidTests := true, laidLooks := .later }
def PoolDropsCardSaid : Prop := Claim7.holds Tryd.pinned (.plain (OpenSpec.ofChange poolDropsSpec)) poolDropsCard

/-- THE TIED CARD OF 'parcloselaw15.PoolBack'. -/
def poolBackCard : Claim7 := { stood := { row := poolBackRow, standIns := [], harness := (true, "cae7b272f9f65cc7222677ec06566236edb87ab69217a6aa73a4e624939c832a"), looks := false }, kinds := [], alts := [], laidByText := true, laidKinds := [.data], laidTests := true, laidLooks := .later }
def PoolBackCardSaid : Prop := Claim7.holds Tryd.pinned (.plain (OpenSpec.ofChange poolBackSpec)) poolBackCard

/-- THE TIED CARD OF 'parcloselaw15.PoolApart'. -/
def poolApartCard : Claim7 := { stood := { row := poolApartRow, standIns := [], harness := (true, "cae7b272f9f65cc7222677ec06566236edb87ab69217a6aa73a4e624939c832a"), looks := false }, kinds := [], alts := [], laidByText := true, laidKinds := [.data], laidTests := true, laidLooks := .later }
def PoolApartCardSaid : Prop := Claim7.holds Tryd.pinned (.plain (OpenSpec.ofChange poolApartSpec)) poolApartCard

/-- THE TIED CARD OF 'parcloselaw15.PoolTurned'. -/
def poolTurnedCard : Claim7 := { stood := { row := poolTurnedRow, standIns := [], harness := (true, "cae7b272f9f65cc7222677ec06566236edb87ab69217a6aa73a4e624939c832a"), looks := false }, kinds := [], alts := [], laidByText := true, laidKinds := [.data], laidTests := true, laidLooks := .later }
def PoolTurnedCardSaid : Prop := Claim7.holds Tryd.pinned (.plain (OpenSpec.ofChange poolTurnedSpec)) poolTurnedCard

/-- THE SECOND FORM's CARD OF 'parcloselaw15.PoolTakes'. -/
def poolTakesUptoCard : Claim7 := { stood := { row := poolTakesUptoRow, standIns := [], harness := (true, "cae7b272f9f65cc7222677ec06566236edb87ab69217a6aa73a4e624939c832a"), looks := false }, kinds := [], alts := [], laidByText := true, laidKinds := [.data], laidTests := true, laidLooks := .later }
def PoolTakesUptoCardSaid : Prop := Claim7.holds Tryd.pinned (.plain (OpenSpec.upto poolTakesSpec)) poolTakesUptoCard

/-- THE SECOND FORM's CARD OF 'parcloselaw15.PoolDrops'. -/
def poolDropsUptoCard : Claim7 := { stood := { row := poolDropsUptoRow, standIns := [], harness := (true, "cae7b272f9f65cc7222677ec06566236edb87ab69217a6aa73a4e624939c832a"), looks := false }, kinds := [], alts := [], laidByText := true, laidKinds := [.data], laidTests := true, laidLooks := .later }
def PoolDropsUptoCardSaid : Prop := Claim7.holds Tryd.pinned (.plain (OpenSpec.upto poolDropsSpec)) poolDropsUptoCard

/-- THE SECOND FORM's CARD OF 'parcloselaw15.PoolBack'. -/
def poolBackUptoCard : Claim7 := { stood := { row := poolBackUptoRow, standIns := [], harness := (true, "cae7b272f9f65cc7222677ec06566236edb87ab69217a6aa73a4e624939c832a"), looks := false }, kinds := [], alts := [], laidByText := true, laidKinds := [.data], laidTests := true, laidLooks := .later }
def PoolBackUptoCardSaid : Prop := Claim7.holds Tryd.pinned (.plain (OpenSpec.upto poolBackSpec)) poolBackUptoCard

/-- THE SECOND FORM's CARD OF 'parcloselaw15.PoolApart'. -/
def poolApartUptoCard : Claim7 := { stood := { row := poolApartUptoRow, standIns := [], harness := (true, "cae7b272f9f65cc7222677ec06566236edb87ab69217a6aa73a4e624939c832a"), looks := false }, kinds := [], alts := [], laidByText := true, laidKinds := [.data], laidTests := true, laidLooks := .later }
def PoolApartUptoCardSaid : Prop := Claim7.holds Tryd.pinned (.plain (OpenSpec.upto poolApartSpec)) poolApartUptoCard

/-- THE SECOND FORM's CARD OF 'parcloselaw15.PoolTurned'. -/
def poolTurnedUptoCard : Claim7 := { stood := { row := poolTurnedUptoRow, standIns := [], harness := (true, "cae7b272f9f65cc7222677ec06566236edb87ab69217a6aa73a4e624939c832a"), looks := false }, kinds := [], alts := [], laidByText := true, laidKinds := [.data], laidTests := true, laidLooks := .later }
def PoolTurnedUptoCardSaid : Prop := Claim7.holds Tryd.pinned (.plain (OpenSpec.upto poolTurnedSpec)) poolTurnedUptoCard
end Rows
end Go.Proofs.YtaafchcpnceddaaDoor
