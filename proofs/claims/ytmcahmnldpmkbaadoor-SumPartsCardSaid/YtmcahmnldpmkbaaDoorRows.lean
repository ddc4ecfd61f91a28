/-
  NARROWER THAN 'FOR EVERY INPUT', by the rows' own cells (each row's printed sentence says how): SumTells: laid · SumSeals: laid · SumTurned: laid · SumGoes: laid · SumParts: laid.
  DERIVED. THE GIVEN ROWS OF THIS SEAT. 5 by the template 'for every input the law returns true; each argument reads behind the call as it read before'; 0 by the template 'total and deterministic' (their statements: YtmcahmnldpmkbaaDoorTotals.lean).
  GIVEN WITH THE SEED: the statements are not yours to turn. If you find one false, say at which input.
  Laid BY PROGRAM, IN A SANDBOX (cutbox-rows.mjs): the forced cells as the released guide's own fill.sh prints them over the translation 17e6f71fdb120610… (all of the seat's roots in one cut). By AI agents, Wed Nov 11 2026. No macro, syntax, notation, axiom, sorry.
-/
import Derived.Test.YtmcahmnldpmkbaaDoorChecked
import GoSem.Claim
import GoSem.ClaimJoined
import GoSem.ClaimMapViews
import Derived.JoinedTies
import Derived.KernelRfl
namespace Go.Proofs.YtmcahmnldpmkbaaDoor
/- THE CELL 'sum', in the pinned program and in every row, IS THE sha256 OF THE DUMP (.gsa) THAT YtmcahmnldpmkbaaDoorProg.lean LOADS. Nothing in Lean hashes anything: it is a label: what it is worth is what the hold of that sum in a sandbox is worth. -/
noncomputable def Tryd.pinned : Pinned := { name := "ytmcahmnldpmkbaadoor", sum := "17e6f71fdb120610e786c873aebadfc6a356d7cfbd2d4b5574ff915cf53e8077", checked := Tryd.checked }
namespace Rows
def none {H : Type} : Left H := { results := [], args := [] }

/- WHAT THE LISTED PACKAGE-LEVEL VARIABLES READ AS WHEN THE CALL BEGINS. Each datum BY PROGRAM (the guide's laid-datum.mjs) off the statement by which the dump's own 'gosem.cut.vars' lays the variable. In a bare row this is a premise. The card (YtmcahmnldpmkbaaDoorCards.lean) ties it to the program's text. -/
def laid_parclose_sum_halved {H : Type} : DataW H := .agg [.lit (.int .u32 0), .lit (.int .u32 498536548), .lit (.int .u32 997073096), .lit (.int .u32 651767980), .lit (.int .u32 1994146192), .lit (.int .u32 1802195444), .lit (.int .u32 1303535960), .lit (.int .u32 1342533948), .lit (.int .u32 3988292384), .lit (.int .u32 4027552580), .lit (.int .u32 3604390888), .lit (.int .u32 3412177804), .lit (.int .u32 2607071920), .lit (.int .u32 2262029012), .lit (.int .u32 2685067896), .lit (.int .u32 3183342108)]

/-- 'parcloselaw02.SumTells': WHATEVER THE INPUT: true; the input reads as it did. -/
def sumTellsSpec : ChangeSpec := { name := "sumTells", fn := fun _ => fun
  | [d1, d2, d3] => { results := [.lit (.bool true)], args := [d1, d2, d3] }
  | _ => none }
def sumTellsRow : OpenClaim := { program := "ytmcahmnldpmkbaadoor", sum := "17e6f71fdb120610e786c873aebadfc6a356d7cfbd2d4b5574ff915cf53e8077", func := "parclose/parcloselaw02.SumTells", spec := "sumTells", unfollowed := true, recurses := true, named := ["parclose/sum.halved"], apart := false, laid := [("parclose/sum.halved", laid_parclose_sum_halved)] }
def SumTellsSaid : Prop := sumTellsRow.holds Tryd.pinned (OpenSpec.ofChange sumTellsSpec)

/-- ITS FALSE NEIGHBOUR: 'it returns false'. Refute it at one input. -/
def sumTellsWrong : ChangeSpec := { name := "sumTells", fn := fun _ => fun
  | [d1, d2, d3] => { results := [.lit (.bool false)], args := [d1, d2, d3] }
  | _ => none }
def SumTellsWrongFalsely : Prop := sumTellsRow.holds Tryd.pinned (OpenSpec.ofChange sumTellsWrong)

/-- 'parcloselaw02.SumSeals': WHATEVER THE INPUT: true; the input reads as it did. -/
def sumSealsSpec : ChangeSpec := { name := "sumSeals", fn := fun _ => fun
  | [d] => { results := [.lit (.bool true)], args := [d] }
  | _ => none }
def sumSealsRow : OpenClaim := { program := "ytmcahmnldpmkbaadoor", sum := "17e6f71fdb120610e786c873aebadfc6a356d7cfbd2d4b5574ff915cf53e8077", func := "parclose/parcloselaw02.SumSeals", spec := "sumSeals", unfollowed := true, recurses := true, named := ["parclose/sum.halved"], apart := false, laid := [("parclose/sum.halved", laid_parclose_sum_halved)] }
def SumSealsSaid : Prop := sumSealsRow.holds Tryd.pinned (OpenSpec.ofChange sumSealsSpec)

/-- ITS FALSE NEIGHBOUR: 'it returns false'. Refute it at one input. -/
def sumSealsWrong : ChangeSpec := { name := "sumSeals", fn := fun _ => fun
  | [d] => { results := [.lit (.bool false)], args := [d] }
  | _ => none }
def SumSealsWrongFalsely : Prop := sumSealsRow.holds Tryd.pinned (OpenSpec.ofChange sumSealsWrong)

/-- 'parcloselaw02.SumTurned': WHATEVER THE INPUT: true; the input reads as it did. -/
def sumTurnedSpec : ChangeSpec := { name := "sumTurned", fn := fun _ => fun
  | [d1, d2, d3] => { results := [.lit (.bool true)], args := [d1, d2, d3] }
  | _ => none }
def sumTurnedRow : OpenClaim := { program := "ytmcahmnldpmkbaadoor", sum := "17e6f71fdb120610e786c873aebadfc6a356d7cfbd2d4b5574ff915cf53e8077", func := "parclose/parcloselaw02.SumTurned", spec := "sumTurned", unfollowed := true, recurses := true, named := ["parclose/sum.halved"], apart := false, laid := [("parclose/sum.halved", laid_parclose_sum_halved)] }
def SumTurnedSaid : Prop := sumTurnedRow.holds Tryd.pinned (OpenSpec.ofChange sumTurnedSpec)

/-- ITS FALSE NEIGHBOUR: 'it returns false'. Refute it at one input. -/
def sumTurnedWrong : ChangeSpec := { name := "sumTurned", fn := fun _ => fun
  | [d1, d2, d3] => { results := [.lit (.bool false)], args := [d1, d2, d3] }
  | _ => none }
def SumTurnedWrongFalsely : Prop := sumTurnedRow.holds Tryd.pinned (OpenSpec.ofChange sumTurnedWrong)

/-- 'parcloselaw02.SumGoes': WHATEVER THE INPUT: true; the input reads as it did. -/
def sumGoesSpec : ChangeSpec := { name := "sumGoes", fn := fun _ => fun
  | [d1, d2, d3, d4] => { results := [.lit (.bool true)], args := [d1, d2, d3, d4] }
  | _ => none }
def sumGoesRow : OpenClaim := { program := "ytmcahmnldpmkbaadoor", sum := "17e6f71fdb120610e786c873aebadfc6a356d7cfbd2d4b5574ff915cf53e8077", func := "parclose/parcloselaw02.SumGoes", spec := "sumGoes", unfollowed := true, recurses := true, named := ["parclose/sum.halved"], apart := false, laid := [("parclose/sum.halved", laid_parclose_sum_halved)] }
def SumGoesSaid : Prop := sumGoesRow.holds Tryd.pinned (OpenSpec.ofChange sumGoesSpec)

/-- ITS FALSE NEIGHBOUR: 'it returns false'. Refute it at one input. -/
def sumGoesWrong : ChangeSpec := { name := "sumGoes", fn := fun _ => fun
  | [d1, d2, d3, d4] => { results := [.lit (.bool false)], args := [d1, d2, d3, d4] }
  | _ => none }
def SumGoesWrongFalsely : Prop := sumGoesRow.holds Tryd.pinned (OpenSpec.ofChange sumGoesWrong)

/-- 'parcloselaw02.SumParts': WHATEVER THE INPUT: true; the input reads as it did. -/
def sumPartsSpec : ChangeSpec := { name := "sumParts", fn := fun _ => fun
  | [d1, d2, d3] => { results := [.lit (.bool true)], args := [d1, d2, d3] }
  | _ => none }
def sumPartsRow : OpenClaim := { program := "ytmcahmnldpmkbaadoor", sum := "17e6f71fdb120610e786c873aebadfc6a356d7cfbd2d4b5574ff915cf53e8077", func := "parclose/parcloselaw02.SumParts", spec := "sumParts", unfollowed := true, recurses := true, named := ["parclose/sum.halved"], apart := false, laid := [("parclose/sum.halved", laid_parclose_sum_halved)] }
def SumPartsSaid : Prop := sumPartsRow.holds Tryd.pinned (OpenSpec.ofChange sumPartsSpec)

/-- ITS FALSE NEIGHBOUR: 'it returns false'. Refute it at one input. -/
def sumPartsWrong : ChangeSpec := { name := "sumParts", fn := fun _ => fun
  | [d1, d2, d3] => { results := [.lit (.bool false)], args := [d1, d2, d3] }
  | _ => none }
def SumPartsWrongFalsely : Prop := sumPartsRow.holds Tryd.pinned (OpenSpec.ofChange sumPartsWrong)

/- THE SECOND FORM. 'bulk': how many values and letters a reading holds, each counted each time it is reached (what is shared counts as often as it is met; a slice's spare places count too). A statement '..UptoSaid' is the law's where the arguments, and the package variables that the reading takes, are together of bulk at most 1048576: NARROWER than '..Said'. Prove '..Said' where nothing that the law and all that it calls make is longer than what came in: it says more and counts as full. Else prove '..UptoSaid'. A law counts once. -/
mutual
def uptoBulk {H : Type} : DataW H → Nat
  | .lit (.string bytes) => bytes.length + 1
  | .lit _ => 1
  | .nil => 1
  | .ptr d => uptoBulk d + 1
  | .slice elems spare => uptoBulkAll elems + uptoBulkAll spare + 1
  | .agg parts => uptoBulkAll parts + 1
  | .iface _ d => uptoBulk d + 1
  | .map entries => uptoBulkEntries entries + 1
  | .held _ => 1
def uptoBulkAll {H : Type} : List (DataW H) → Nat
  | [] => 0
  | d :: r => uptoBulk d + uptoBulkAll r
def uptoBulkEntries {H : Type} : List (Lit × DataW H) → Nat
  | [] => 0
  | x :: r => uptoBulkEntry x + uptoBulkEntries r
def uptoBulkEntry {H : Type} : Lit × DataW H → Nat
  | (.string bytes, d) => bytes.length + uptoBulk d + 1
  | (_, d) => uptoBulk d + 1
 end
def uptoSmall : (H : Type) → List (DataW H) → Bool := fun _ ds => decide (uptoBulkAll ds ≤ 1048576)
def OpenSpec.upto (s : _root_.Go.ChangeSpec) : _root_.Go.OpenSpec := { _root_.Go.OpenSpec.ofChange s with cond := some uptoSmall }

/-- 'parcloselaw02.SumTells', WHERE WHAT IT READS IS OF BULK AT MOST 1048576: true; the input reads as it did. -/
def sumTellsUptoRow : OpenClaim := { program := "ytmcahmnldpmkbaadoor", sum := "17e6f71fdb120610e786c873aebadfc6a356d7cfbd2d4b5574ff915cf53e8077", func := "parclose/parcloselaw02.SumTells", spec := "sumTells", unfollowed := true, recurses := true, named := ["parclose/sum.halved"], apart := false, laid := [("parclose/sum.halved", laid_parclose_sum_halved)], narrowed := true }
def SumTellsUptoSaid : Prop := sumTellsUptoRow.holds Tryd.pinned (OpenSpec.upto sumTellsSpec)

/-- 'parcloselaw02.SumSeals', WHERE WHAT IT READS IS OF BULK AT MOST 1048576: true; the input reads as it did. -/
def sumSealsUptoRow : OpenClaim := { program := "ytmcahmnldpmkbaadoor", sum := "17e6f71fdb120610e786c873aebadfc6a356d7cfbd2d4b5574ff915cf53e8077", func := "parclose/parcloselaw02.SumSeals", spec := "sumSeals", unfollowed := true, recurses := true, named := ["parclose/sum.halved"], apart := false, laid := [("parclose/sum.halved", laid_parclose_sum_halved)], narrowed := true }
def SumSealsUptoSaid : Prop := sumSealsUptoRow.holds Tryd.pinned (OpenSpec.upto sumSealsSpec)

/-- 'parcloselaw02.SumTurned', WHERE WHAT IT READS IS OF BULK AT MOST 1048576: true; the input reads as it did. -/
def sumTurnedUptoRow : OpenClaim := { program := "ytmcahmnldpmkbaadoor", sum := "17e6f71fdb120610e786c873aebadfc6a356d7cfbd2d4b5574ff915cf53e8077", func := "parclose/parcloselaw02.SumTurned", spec := "sumTurned", unfollowed := true, recurses := true, named := ["parclose/sum.halved"], apart := false, laid := [("parclose/sum.halved", laid_parclose_sum_halved)], narrowed := true }
def SumTurnedUptoSaid : Prop := sumTurnedUptoRow.holds Tryd.pinned (OpenSpec.upto sumTurnedSpec)

/-- 'parcloselaw02.SumGoes', WHERE WHAT IT READS IS OF BULK AT MOST 1048576: true; the input reads as it did. -/
def sumGoesUptoRow : OpenClaim := { program := "ytmcahmnldpmkbaadoor", sum := "17e6f71fdb120610e786c873aebadfc6a356d7cfbd2d4b5574ff915cf53e8077", func := "parclose/parcloselaw02.SumGoes", spec := "sumGoes", unfollowed := true, recurses := true, named := ["parclose/sum.halved"], apart := false, laid := [("parclose/sum.halved", laid_parclose_sum_halved)], narrowed := true }
def SumGoesUptoSaid : Prop := sumGoesUptoRow.holds Tryd.pinned (OpenSpec.upto sumGoesSpec)

/-- 'parcloselaw02.SumParts', WHERE WHAT IT READS IS OF BULK AT MOST 1048576: true; the input reads as it did. -/
def sumPartsUptoRow : OpenClaim := { program := "ytmcahmnldpmkbaadoor", sum := "17e6f71fdb120610e786c873aebadfc6a356d7cfbd2d4b5574ff915cf53e8077", func := "parclose/parcloselaw02.SumParts", spec := "sumParts", unfollowed := true, recurses := true, named := ["parclose/sum.halved"], apart := false, laid := [("parclose/sum.halved", laid_parclose_sum_halved)], narrowed := true }
def SumPartsUptoSaid : Prop := sumPartsUptoRow.holds Tryd.pinned (OpenSpec.upto sumPartsSpec)

end Rows
end Go.Proofs.YtmcahmnldpmkbaaDoor
