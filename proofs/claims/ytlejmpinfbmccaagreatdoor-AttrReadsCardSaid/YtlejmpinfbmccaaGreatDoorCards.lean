/-
  DERIVED. GIVEN WITH THE SEED: THE CARDS: each row of YtlejmpinfbmccaaGreatDoorRows.lean that lists a variable, with what it lists TIED to the program's text (the seventh form; the later family's looks); each row that meets fmt, with fmt's text TOLD by the authors' own Lean function (tested against real Go, not proved from fmt's source: count such statements apart). THE CARD IS WHAT COUNTS. Prove the row's statement (the work); the ties are given (YtlejmpinfbmccaaGreatDoorTie.lean); close each card by the builder's one call (the guide's Derived/Test/ToyasCard.lean, 'card_holds'). Laid BY PROGRAM, IN A SANDBOX (cutbox-door.mjs). By AI agents, Wed Nov 11 2026. No macro, syntax, notation, axiom, sorry.
-/
import Derived.Test.YtlejmpinfbmccaaGreatDoorRows
import GoSem.ClaimSeven
namespace Go.Proofs.YtlejmpinfbmccaaGreatDoor
namespace Rows

/-- THE TIED CARD OF 'parcloselaw10.AttrChecks'. -/
def attrChecksCard : Claim7 := { stood := { row := attrChecksRow, standIns := [], harness := (true, "80f0ff1b23a11cb4137c5325bfca18833195a48471fa59ea79e118cfa4338251"), looks := true }, kinds := [], alts := [], laidByText := true, laidKinds := [.handle, .data, .sentinel, .sentinel, .sentinel], laidTests := true, laidLooks := .later }
def AttrChecksCardSaid : Prop := Claim7.holds Tryz.pinned (.plain (OpenSpec.ofChange attrChecksSpec)) attrChecksCard

/-- THE TIED CARD OF 'parcloselaw10.AttrWrites'. -/
def attrWritesCard : Claim7 := { stood := { row := attrWritesRow, standIns := [], harness := (true, "80f0ff1b23a11cb4137c5325bfca18833195a48471fa59ea79e118cfa4338251"), looks := true }, kinds := [], alts := [], laidByText := true, laidKinds := [.handle, .data, .sentinel, .sentinel, .sentinel], laidTests := true, laidLooks := .later }
def AttrWritesCardSaid : Prop := Claim7.holds Tryz.pinned (.plain (OpenSpec.ofChange attrWritesSpec)) attrWritesCard

/-- THE TIED CARD OF 'parcloselaw10.AttrReads'. -/
def attrReadsCard : Claim7 := { stood := { row := attrReadsRow, standIns := [], harness := (true, "80f0ff1b23a11cb4137c5325bfca18833195a48471fa59ea79e118cfa4338251"), looks := true }, kinds := [], alts := [], laidByText := true, laidKinds := [.handle, .data, .sentinel, .sentinel, .sentinel], laidTests := true, laidLooks := .later }
def AttrReadsCardSaid : Prop := Claim7.holds Tryz.pinned (.plain (OpenSpec.ofChange attrReadsSpec)) attrReadsCard

/-- THE TIED CARD OF 'parcloselaw10.AttrBack'. -/
def attrBackCard : Claim7 := { stood := { row := attrBackRow, standIns := [], harness := (true, "80f0ff1b23a11cb4137c5325bfca18833195a48471fa59ea79e118cfa4338251"), looks := true }, kinds := [], alts := [], laidByText := true, laidKinds := [.handle, .data, .sentinel, .sentinel, .sentinel], laidTests := true, laidLooks := .later }
def AttrBackCardSaid : Prop := Claim7.holds Tryz.pinned (.plain (OpenSpec.ofChange attrBackSpec)) attrBackCard

/-- THE TIED CARD OF 'parcloselaw10.AttrOwn'. -/
def attrOwnCard : Claim7 := { stood := { row := attrOwnRow, standIns := [], harness := (true, "80f0ff1b23a11cb4137c5325bfca18833195a48471fa59ea79e118cfa4338251"), looks := true }, kinds := [], alts := [], laidByText := true, laidKinds := [.handle, .data, .sentinel, .sentinel, .sentinel], laidTests := true, laidLooks := .later }
def AttrOwnCardSaid : Prop := Claim7.holds Tryz.pinned (.plain (OpenSpec.ofChange attrOwnSpec)) attrOwnCard

/-- THE SECOND FORM's CARD OF 'parcloselaw10.AttrChecks'. -/
def attrChecksUptoCard : Claim7 := { stood := { row := attrChecksUptoRow, standIns := [], harness := (true, "80f0ff1b23a11cb4137c5325bfca18833195a48471fa59ea79e118cfa4338251"), looks := true }, kinds := [], alts := [], laidByText := true, laidKinds := [.handle, .data, .sentinel, .sentinel, .sentinel], laidTests := true, laidLooks := .later }
def AttrChecksUptoCardSaid : Prop := Claim7.holds Tryz.pinned (.plain (OpenSpec.upto attrChecksSpec)) attrChecksUptoCard

/-- THE SECOND FORM's CARD OF 'parcloselaw10.AttrWrites'. -/
def attrWritesUptoCard : Claim7 := { stood := { row := attrWritesUptoRow, standIns := [], harness := (true, "80f0ff1b23a11cb4137c5325bfca18833195a48471fa59ea79e118cfa4338251"), looks := true }, kinds := [], alts := [], laidByText := true, laidKinds := [.handle, .data, .sentinel, .sentinel, .sentinel], laidTests := true, laidLooks := .later }
def AttrWritesUptoCardSaid : Prop := Claim7.holds Tryz.pinned (.plain (OpenSpec.upto attrWritesSpec)) attrWritesUptoCard

/-- THE SECOND FORM's CARD OF 'parcloselaw10.AttrReads'. -/
def attrReadsUptoCard : Claim7 := { stood := { row := attrReadsUptoRow, standIns := [], harness := (true, "80f0ff1b23a11cb4137c5325bfca18833195a48471fa59ea79e118cfa4338251"), looks := true }, kinds := [], alts := [], laidByText := true, laidKinds := [.handle, .data, .sentinel, .sentinel, .sentinel], laidTests := true, laidLooks := .later }
def AttrReadsUptoCardSaid : Prop := Claim7.holds Tryz.pinned (.plain (OpenSpec.upto attrReadsSpec)) attrReadsUptoCard

/-- THE SECOND FORM's CARD OF 'parcloselaw10.AttrBack'. -/
def attrBackUptoCard : Claim7 := { stood := { row := attrBackUptoRow, standIns := [], harness := (true, "80f0ff1b23a11cb4137c5325bfca18833195a48471fa59ea79e118cfa4338251"), looks := true }, kinds := [], alts := [], laidByText := true, laidKinds := [.handle, .data, .sentinel, .sentinel, .sentinel], laidTests := true, laidLooks := .later }
def AttrBackUptoCardSaid : Prop := Claim7.holds Tryz.pinned (.plain (OpenSpec.upto attrBackSpec)) attrBackUptoCard

/-- THE SECOND FORM's CARD OF 'parcloselaw10.AttrOwn'. -/
def attrOwnUptoCard : Claim7 := { stood := { row := attrOwnUptoRow, standIns := [], harness := (true, "80f0ff1b23a11cb4137c5325bfca18833195a48471fa59ea79e118cfa4338251"), looks := true }, kinds := [], alts := [], laidByText := true, laidKinds := [.handle, .data, .sentinel, .sentinel, .sentinel], laidTests := true, laidLooks := .later }
def AttrOwnUptoCardSaid : Prop := Claim7.holds Tryz.pinned (.plain (OpenSpec.upto attrOwnSpec)) attrOwnUptoCard
end Rows
end Go.Proofs.YtlejmpinfbmccaaGreatDoor
