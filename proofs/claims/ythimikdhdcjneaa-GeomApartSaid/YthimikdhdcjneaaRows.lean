/-
  No cell of these rows narrows 'for every input' (looked for: loops, veiled, ifaces, maps, wideKeys, modest, calm, conditions, laid).
  DERIVED. THE GIVEN ROWS OF THIS SEAT. 4 by the template 'for every input the law returns true; each argument reads behind the call as it read before'; 0 by the template 'total and deterministic' (their statements: YthimikdhdcjneaaTotals.lean).
  GIVEN WITH THE SEED: the statements are not yours to turn. If you find one false, say at which input.
  Laid BY PROGRAM, IN A SANDBOX (cutbox-rows.mjs): the forced cells as the released guide's own fill.sh prints them over the translation e235fd4287045726… (all of the seat's roots in one cut). By AI agents, Wed Nov 11 2026. No macro, syntax, notation, axiom, sorry.
-/
import Derived.Test.YthimikdhdcjneaaChecked
import GoSem.Claim
import GoSem.ClaimJoined
import GoSem.ClaimMapViews
import Derived.JoinedTies
import Derived.KernelRfl
namespace Go.Proofs.Ythimikdhdcjneaa
/- THE CELL 'sum', in the pinned program and in every row, IS THE sha256 OF THE DUMP (.gsa) THAT YthimikdhdcjneaaProg.lean LOADS. Nothing in Lean hashes anything: it is a label: what it is worth is what the hold of that sum in a sandbox is worth. -/
noncomputable def Try.pinned : Pinned := { name := "ythimikdhdcjneaa", sum := "e235fd428704572615392052da8f0081a79b76bd3a61a1de7a80e5e89ae34b29", checked := Try.checked }
namespace Rows
def none {H : Type} : Left H := { results := [], args := [] }

/-- 'parcloselaw04.GeomPlaces': WHATEVER THE INPUT: true; the input reads as it did. -/
def geomPlacesSpec : ChangeSpec := { name := "geomPlaces", fn := fun _ => fun
  | [d1, d2] => { results := [.lit (.bool true)], args := [d1, d2] }
  | _ => none }
def geomPlacesRow : OpenClaim := { program := "ythimikdhdcjneaa", sum := "e235fd428704572615392052da8f0081a79b76bd3a61a1de7a80e5e89ae34b29", func := "parclose/parcloselaw04.GeomPlaces", spec := "geomPlaces", apart := false }
def GeomPlacesSaid : Prop := geomPlacesRow.holds Try.pinned (OpenSpec.ofChange geomPlacesSpec)

/-- ITS FALSE NEIGHBOUR: 'it returns false'. Refute it at one input. -/
def geomPlacesWrong : ChangeSpec := { name := "geomPlaces", fn := fun _ => fun
  | [d1, d2] => { results := [.lit (.bool false)], args := [d1, d2] }
  | _ => none }
def GeomPlacesWrongFalsely : Prop := geomPlacesRow.holds Try.pinned (OpenSpec.ofChange geomPlacesWrong)

/-- 'parcloselaw04.GeomWhat': WHATEVER THE INPUT: true; the input reads as it did. -/
def geomWhatSpec : ChangeSpec := { name := "geomWhat", fn := fun _ => fun
  | [d1, d2] => { results := [.lit (.bool true)], args := [d1, d2] }
  | _ => none }
def geomWhatRow : OpenClaim := { program := "ythimikdhdcjneaa", sum := "e235fd428704572615392052da8f0081a79b76bd3a61a1de7a80e5e89ae34b29", func := "parclose/parcloselaw04.GeomWhat", spec := "geomWhat", apart := false }
def GeomWhatSaid : Prop := geomWhatRow.holds Try.pinned (OpenSpec.ofChange geomWhatSpec)

/-- ITS FALSE NEIGHBOUR: 'it returns false'. Refute it at one input. -/
def geomWhatWrong : ChangeSpec := { name := "geomWhat", fn := fun _ => fun
  | [d1, d2] => { results := [.lit (.bool false)], args := [d1, d2] }
  | _ => none }
def GeomWhatWrongFalsely : Prop := geomWhatRow.holds Try.pinned (OpenSpec.ofChange geomWhatWrong)

/-- 'parcloselaw04.GeomApart': WHATEVER THE INPUT: true; the input reads as it did. -/
def geomApartSpec : ChangeSpec := { name := "geomApart", fn := fun _ => fun
  | [d] => { results := [.lit (.bool true)], args := [d] }
  | _ => none }
def geomApartRow : OpenClaim := { program := "ythimikdhdcjneaa", sum := "e235fd428704572615392052da8f0081a79b76bd3a61a1de7a80e5e89ae34b29", func := "parclose/parcloselaw04.GeomApart", spec := "geomApart", apart := false }
def GeomApartSaid : Prop := geomApartRow.holds Try.pinned (OpenSpec.ofChange geomApartSpec)

/-- ITS FALSE NEIGHBOUR: 'it returns false'. Refute it at one input. -/
def geomApartWrong : ChangeSpec := { name := "geomApart", fn := fun _ => fun
  | [d] => { results := [.lit (.bool false)], args := [d] }
  | _ => none }
def GeomApartWrongFalsely : Prop := geomApartRow.holds Try.pinned (OpenSpec.ofChange geomApartWrong)

/-- 'parcloselaw04.GeomMore': WHATEVER THE INPUT: true; the input reads as it did. -/
def geomMoreSpec : ChangeSpec := { name := "geomMore", fn := fun _ => fun
  | [d] => { results := [.lit (.bool true)], args := [d] }
  | _ => none }
def geomMoreRow : OpenClaim := { program := "ythimikdhdcjneaa", sum := "e235fd428704572615392052da8f0081a79b76bd3a61a1de7a80e5e89ae34b29", func := "parclose/parcloselaw04.GeomMore", spec := "geomMore", apart := false }
def GeomMoreSaid : Prop := geomMoreRow.holds Try.pinned (OpenSpec.ofChange geomMoreSpec)

/-- ITS FALSE NEIGHBOUR: 'it returns false'. Refute it at one input. -/
def geomMoreWrong : ChangeSpec := { name := "geomMore", fn := fun _ => fun
  | [d] => { results := [.lit (.bool false)], args := [d] }
  | _ => none }
def GeomMoreWrongFalsely : Prop := geomMoreRow.holds Try.pinned (OpenSpec.ofChange geomMoreWrong)

/- THE SECOND FORM. 'bulk': how many values and letters a reading holds, each counted each time it is reached (what is shared counts as often as it is met; a slice's spare places count too). A statement '..UptoSaid' is the law's where the arguments, and the package variables that the reading takes, are together of bulk at most 1048576: NARROWER than '..Said'. Prove '..Said' where nothing that the law and all that it calls make is longer than what came in: it says more and counts as full. Else prove '..UptoSaid'. A law counts once. -/
mutual
def uptoBulk {H : Type} : DataW H → Nat
  | .lit (.string bytes) => bytes.length + 1
  | .lit _ => 1
  | .nil => 1
  | .ptr d => uptoBulk d + 1
  | .slice elems spare => uptoBulkAll elems + uptoBulkAll spare + 1
  | .agg parts => uptoBulkAll parts + 1
  | .iface _ d => uptoBulk d + 1
  | .map entries => uptoBulkEntries entries + 1
  | .held _ => 1
def uptoBulkAll {H : Type} : List (DataW H) → Nat
  | [] => 0
  | d :: r => uptoBulk d + uptoBulkAll r
def uptoBulkEntries {H : Type} : List (Lit × DataW H) → Nat
  | [] => 0
  | x :: r => uptoBulkEntry x + uptoBulkEntries r
def uptoBulkEntry {H : Type} : Lit × DataW H → Nat
  | (.string bytes, d) => bytes.length + uptoBulk d + 1
  | (_, d) => uptoBulk d + 1
 end
def uptoSmall : (H : Type) → List (DataW H) → Bool := fun _ ds => decide (uptoBulkAll ds ≤ 1048576)
def OpenSpec.upto (s : _root_.Go.ChangeSpec) : _root_.Go.OpenSpec := { _root_.Go.OpenSpec.ofChange s with cond := some uptoSmall }

/-- 'parcloselaw04.GeomPlaces', WHERE WHAT IT READS IS OF BULK AT MOST 1048576: true; the input reads as it did. -/
def geomPlacesUptoRow : OpenClaim := { program := "ythimikdhdcjneaa", sum := "e235fd428704572615392052da8f0081a79b76bd3a61a1de7a80e5e89ae34b29", func := "parclose/parcloselaw04.GeomPlaces", spec := "geomPlaces", apart := false, narrowed := true }
def GeomPlacesUptoSaid : Prop := geomPlacesUptoRow.holds Try.pinned (OpenSpec.upto geomPlacesSpec)

/-- 'parcloselaw04.GeomWhat', WHERE WHAT IT READS IS OF BULK AT MOST 1048576: true; the input reads as it did. -/
def geomWhatUptoRow : OpenClaim := { program := "ythimikdhdcjneaa", sum := "e235fd428704572615392052da8f0081a79b76bd3a61a1de7a80e5e89ae34b29", func := "parclose/parcloselaw04.GeomWhat", spec := "geomWhat", apart := false, narrowed := true }
def GeomWhatUptoSaid : Prop := geomWhatUptoRow.holds Try.pinned (OpenSpec.upto geomWhatSpec)

/-- 'parcloselaw04.GeomApart', WHERE WHAT IT READS IS OF BULK AT MOST 1048576: true; the input reads as it did. -/
def geomApartUptoRow : OpenClaim := { program := "ythimikdhdcjneaa", sum := "e235fd428704572615392052da8f0081a79b76bd3a61a1de7a80e5e89ae34b29", func := "parclose/parcloselaw04.GeomApart", spec := "geomApart", apart := false, narrowed := true }
def GeomApartUptoSaid : Prop := geomApartUptoRow.holds Try.pinned (OpenSpec.upto geomApartSpec)

/-- 'parcloselaw04.GeomMore', WHERE WHAT IT READS IS OF BULK AT MOST 1048576: true; the input reads as it did. -/
def geomMoreUptoRow : OpenClaim := { program := "ythimikdhdcjneaa", sum := "e235fd428704572615392052da8f0081a79b76bd3a61a1de7a80e5e89ae34b29", func := "parclose/parcloselaw04.GeomMore", spec := "geomMore", apart := false, narrowed := true }
def GeomMoreUptoSaid : Prop := geomMoreUptoRow.holds Try.pinned (OpenSpec.upto geomMoreSpec)

end Rows
end Go.Proofs.Ythimikdhdcjneaa
