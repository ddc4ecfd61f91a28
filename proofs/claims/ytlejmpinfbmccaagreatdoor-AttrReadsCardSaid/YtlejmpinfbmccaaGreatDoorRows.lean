/-
  NARROWER THAN 'FOR EVERY INPUT', by the rows' own cells (each row's printed sentence says how): AttrChecks: laid · AttrWrites: laid · AttrReads: laid · AttrBack: laid · AttrOwn: laid.
  DERIVED. THE GIVEN ROWS OF THIS SEAT. 5 by the template 'for every input the law returns true; each argument reads behind the call as it read before'; 0 by the template 'total and deterministic' (their statements: YtlejmpinfbmccaaGreatDoorTotals.lean).
  GIVEN WITH THE SEED: the statements are not yours to turn. If you find one false, say at which input.
  Laid BY PROGRAM, IN A SANDBOX (cutbox-rows.mjs): the forced cells as the released guide's own fill.sh prints them over the translation 1a4a0056c8359d84… (all of the seat's roots in one cut). By AI agents, Wed Nov 11 2026. No macro, syntax, notation, axiom, sorry.
-/
import Derived.Test.YtlejmpinfbmccaaGreatDoorChecked
import GoSem.Claim
import GoSem.ClaimJoined
import GoSem.ClaimMapViews
import Derived.JoinedTies
import Derived.KernelRfl
namespace Go.Proofs.YtlejmpinfbmccaaGreatDoor
/- THE CELL 'sum', in the pinned program and in every row, IS THE sha256 OF THE DUMP (.gsa) THAT YtlejmpinfbmccaaGreatDoorProg.lean LOADS. Nothing in Lean hashes anything: it is a label: what it is worth is what the hold of that sum in a sandbox is worth. -/
noncomputable def Tryz.pinned : Pinned := { name := "ytlejmpinfbmccaagreatdoor", sum := "1a4a0056c8359d84e5d5b43ed0da3dbd929bc04ce60f475918635f32642ac39c", checked := Tryz.checked }
namespace Rows
def none {H : Type} : Left H := { results := [], args := [] }

/- WHAT THE LISTED PACKAGE-LEVEL VARIABLES READ AS WHEN THE CALL BEGINS. Each datum BY PROGRAM (the guide's laid-datum.mjs) off the statement by which the dump's own 'gosem.cut.vars' lays the variable. In a bare row this is a premise. The card (YtlejmpinfbmccaaGreatDoorCards.lean) ties it to the program's text. -/
def laid_errors_errorType {H : Type} : DataW H := .iface "internal/reflectlite.rtype" (.agg [.ptr (.lit (.string [101, 114, 114, 111, 114]))])
def laid_parclose_sum_halved {H : Type} : DataW H := .agg [.lit (.int .u32 0), .lit (.int .u32 498536548), .lit (.int .u32 997073096), .lit (.int .u32 651767980), .lit (.int .u32 1994146192), .lit (.int .u32 1802195444), .lit (.int .u32 1303535960), .lit (.int .u32 1342533948), .lit (.int .u32 3988292384), .lit (.int .u32 4027552580), .lit (.int .u32 3604390888), .lit (.int .u32 3412177804), .lit (.int .u32 2607071920), .lit (.int .u32 2262029012), .lit (.int .u32 2685067896), .lit (.int .u32 3183342108)]
def laid_parclose_attr_errMark {H : Type} : DataW H := .iface "*errors.errorString" (.ptr (.agg [.lit (.string [110, 111, 32, 98, 108, 111, 99, 107, 32, 111, 102, 32, 97, 116, 116, 114, 105, 98, 117, 116, 101, 115, 32, 98, 101, 103, 105, 110, 115, 32, 115, 111])]))
def laid_parclose_attr_errSeal {H : Type} : DataW H := .iface "*errors.errorString" (.ptr (.agg [.lit (.string [116, 104, 101, 32, 108, 97, 115, 116, 32, 119, 111, 114, 100, 32, 105, 115, 32, 110, 111, 116, 32, 116, 104, 101, 32, 115, 101, 97, 108])]))
def laid_parclose_attr_errWords {H : Type} : DataW H := .iface "*errors.errorString" (.ptr (.agg [.lit (.string [110, 111, 110, 101, 32, 116, 104, 97, 116, 32, 109, 97, 121, 32, 98, 101, 32, 104, 97, 118, 101, 32, 116, 104, 101, 115, 101, 32, 119, 111, 114, 100, 115])]))

/-- 'parcloselaw10.AttrChecks': WHATEVER THE INPUT: true; the input reads as it did. -/
def attrChecksSpec : ChangeSpec := { name := "attrChecks", fn := fun _ => fun
  | [d1, d2] => { results := [.lit (.bool true)], args := [d1, d2] }
  | _ => none }
def attrChecksRow : OpenClaim := { program := "ytlejmpinfbmccaagreatdoor", sum := "1a4a0056c8359d84e5d5b43ed0da3dbd929bc04ce60f475918635f32642ac39c", func := "parclose/parcloselaw10.AttrChecks", spec := "attrChecks", inPlace := ["internal/bytealg.IndexByteString", "internal/reflectlite.ValueOf", "(internal/reflectlite.Value).Type", "(internal/reflectlite.Value).IsNil", "internal/reflectlite.TypeOf", "(internal/reflectlite.Value).Elem", "(internal/reflectlite.Value).Set"], unfollowed := true, recurses := true, named := ["parclose/sum.halved", "parclose/attr.errMark", "parclose/attr.errSeal", "parclose/attr.errWords", "errors.errorType"], apart := false, laid := [("errors.errorType", laid_errors_errorType), ("parclose/sum.halved", laid_parclose_sum_halved), ("parclose/attr.errMark", laid_parclose_attr_errMark), ("parclose/attr.errSeal", laid_parclose_attr_errSeal), ("parclose/attr.errWords", laid_parclose_attr_errWords)] }
def AttrChecksSaid : Prop := attrChecksRow.holds Tryz.pinned (OpenSpec.ofChange attrChecksSpec)

/-- ITS FALSE NEIGHBOUR: 'it returns false'. Refute it at one input. -/
def attrChecksWrong : ChangeSpec := { name := "attrChecks", fn := fun _ => fun
  | [d1, d2] => { results := [.lit (.bool false)], args := [d1, d2] }
  | _ => none }
def AttrChecksWrongFalsely : Prop := attrChecksRow.holds Tryz.pinned (OpenSpec.ofChange attrChecksWrong)

/-- 'parcloselaw10.AttrWrites': WHATEVER THE INPUT: true; the input reads as it did. -/
def attrWritesSpec : ChangeSpec := { name := "attrWrites", fn := fun _ => fun
  | [d] => { results := [.lit (.bool true)], args := [d] }
  | _ => none }
def attrWritesRow : OpenClaim := { program := "ytlejmpinfbmccaagreatdoor", sum := "1a4a0056c8359d84e5d5b43ed0da3dbd929bc04ce60f475918635f32642ac39c", func := "parclose/parcloselaw10.AttrWrites", spec := "attrWrites", inPlace := ["internal/bytealg.IndexByteString", "internal/reflectlite.ValueOf", "(internal/reflectlite.Value).Type", "(internal/reflectlite.Value).IsNil", "internal/reflectlite.TypeOf", "(internal/reflectlite.Value).Elem", "(internal/reflectlite.Value).Set"], unfollowed := true, recurses := true, named := ["parclose/sum.halved", "parclose/attr.errMark", "parclose/attr.errSeal", "parclose/attr.errWords", "errors.errorType"], apart := false, laid := [("errors.errorType", laid_errors_errorType), ("parclose/sum.halved", laid_parclose_sum_halved), ("parclose/attr.errMark", laid_parclose_attr_errMark), ("parclose/attr.errSeal", laid_parclose_attr_errSeal), ("parclose/attr.errWords", laid_parclose_attr_errWords)] }
def AttrWritesSaid : Prop := attrWritesRow.holds Tryz.pinned (OpenSpec.ofChange attrWritesSpec)

/-- ITS FALSE NEIGHBOUR: 'it returns false'. Refute it at one input. -/
def attrWritesWrong : ChangeSpec := { name := "attrWrites", fn := fun _ => fun
  | [d] => { results := [.lit (.bool false)], args := [d] }
  | _ => none }
def AttrWritesWrongFalsely : Prop := attrWritesRow.holds Tryz.pinned (OpenSpec.ofChange attrWritesWrong)

/-- 'parcloselaw10.AttrReads': WHATEVER THE INPUT: true; the input reads as it did. -/
def attrReadsSpec : ChangeSpec := { name := "attrReads", fn := fun _ => fun
  | [d] => { results := [.lit (.bool true)], args := [d] }
  | _ => none }
def attrReadsRow : OpenClaim := { program := "ytlejmpinfbmccaagreatdoor", sum := "1a4a0056c8359d84e5d5b43ed0da3dbd929bc04ce60f475918635f32642ac39c", func := "parclose/parcloselaw10.AttrReads", spec := "attrReads", inPlace := ["internal/bytealg.IndexByteString", "internal/reflectlite.ValueOf", "(internal/reflectlite.Value).Type", "(internal/reflectlite.Value).IsNil", "internal/reflectlite.TypeOf", "(internal/reflectlite.Value).Elem", "(internal/reflectlite.Value).Set"], unfollowed := true, recurses := true, named := ["parclose/sum.halved", "parclose/attr.errMark", "parclose/attr.errSeal", "parclose/attr.errWords", "errors.errorType"], apart := false, laid := [("errors.errorType", laid_errors_errorType), ("parclose/sum.halved", laid_parclose_sum_halved), ("parclose/attr.errMark", laid_parclose_attr_errMark), ("parclose/attr.errSeal", laid_parclose_attr_errSeal), ("parclose/attr.errWords", laid_parclose_attr_errWords)] }
def AttrReadsSaid : Prop := attrReadsRow.holds Tryz.pinned (OpenSpec.ofChange attrReadsSpec)

/-- ITS FALSE NEIGHBOUR: 'it returns false'. Refute it at one input. -/
def attrReadsWrong : ChangeSpec := { name := "attrReads", fn := fun _ => fun
  | [d] => { results := [.lit (.bool false)], args := [d] }
  | _ => none }
def AttrReadsWrongFalsely : Prop := attrReadsRow.holds Tryz.pinned (OpenSpec.ofChange attrReadsWrong)

/-- 'parcloselaw10.AttrBack': WHATEVER THE INPUT: true; the input reads as it did. -/
def attrBackSpec : ChangeSpec := { name := "attrBack", fn := fun _ => fun
  | [d1, d2, d3, d4] => { results := [.lit (.bool true)], args := [d1, d2, d3, d4] }
  | _ => none }
def attrBackRow : OpenClaim := { program := "ytlejmpinfbmccaagreatdoor", sum := "1a4a0056c8359d84e5d5b43ed0da3dbd929bc04ce60f475918635f32642ac39c", func := "parclose/parcloselaw10.AttrBack", spec := "attrBack", inPlace := ["internal/bytealg.IndexByteString", "internal/reflectlite.ValueOf", "(internal/reflectlite.Value).Type", "(internal/reflectlite.Value).IsNil", "internal/reflectlite.TypeOf", "(internal/reflectlite.Value).Elem", "(internal/reflectlite.Value).Set"], unfollowed := true, recurses := true, named := ["parclose/sum.halved", "parclose/attr.errMark", "parclose/attr.errSeal", "parclose/attr.errWords", "errors.errorType"], apart := false, laid := [("errors.errorType", laid_errors_errorType), ("parclose/sum.halved", laid_parclose_sum_halved), ("parclose/attr.errMark", laid_parclose_attr_errMark), ("parclose/attr.errSeal", laid_parclose_attr_errSeal), ("parclose/attr.errWords", laid_parclose_attr_errWords)] }
def AttrBackSaid : Prop := attrBackRow.holds Tryz.pinned (OpenSpec.ofChange attrBackSpec)

/-- ITS FALSE NEIGHBOUR: 'it returns false'. Refute it at one input. -/
def attrBackWrong : ChangeSpec := { name := "attrBack", fn := fun _ => fun
  | [d1, d2, d3, d4] => { results := [.lit (.bool false)], args := [d1, d2, d3, d4] }
  | _ => none }
def AttrBackWrongFalsely : Prop := attrBackRow.holds Tryz.pinned (OpenSpec.ofChange attrBackWrong)

/-- 'parcloselaw10.AttrOwn': WHATEVER THE INPUT: true; the input reads as it did. -/
def attrOwnSpec : ChangeSpec := { name := "attrOwn", fn := fun _ => fun
  | [d1, d2] => { results := [.lit (.bool true)], args := [d1, d2] }
  | _ => none }
def attrOwnRow : OpenClaim := { program := "ytlejmpinfbmccaagreatdoor", sum := "1a4a0056c8359d84e5d5b43ed0da3dbd929bc04ce60f475918635f32642ac39c", func := "parclose/parcloselaw10.AttrOwn", spec := "attrOwn", inPlace := ["internal/bytealg.IndexByteString", "internal/reflectlite.ValueOf", "(internal/reflectlite.Value).Type", "(internal/reflectlite.Value).IsNil", "internal/reflectlite.TypeOf", "(internal/reflectlite.Value).Elem", "(internal/reflectlite.Value).Set"], unfollowed := true, recurses := true, named := ["parclose/sum.halved", "parclose/attr.errMark", "parclose/attr.errSeal", "parclose/attr.errWords", "errors.errorType"], apart := false, laid := [("errors.errorType", laid_errors_errorType), ("parclose/sum.halved", laid_parclose_sum_halved), ("parclose/attr.errMark", laid_parclose_attr_errMark), ("parclose/attr.errSeal", laid_parclose_attr_errSeal), ("parclose/attr.errWords", laid_parclose_attr_errWords)] }
def AttrOwnSaid : Prop := attrOwnRow.holds Tryz.pinned (OpenSpec.ofChange attrOwnSpec)

/-- ITS FALSE NEIGHBOUR: 'it returns false'. Refute it at one input. -/
def attrOwnWrong : ChangeSpec := { name := "attrOwn", fn := fun _ => fun
  | [d1, d2] => { results := [.lit (.bool false)], args := [d1, d2] }
  | _ => none }
def AttrOwnWrongFalsely : Prop := attrOwnRow.holds Tryz.pinned (OpenSpec.ofChange attrOwnWrong)

/- THE SECOND FORM. 'bulk': how many values and letters a reading holds, each counted each time it is reached (what is shared counts as often as it is met; a slice's spare places count too). A statement '..UptoSaid' is the law's where the arguments, and the package variables that the reading takes, are together of bulk at most 1048576: NARROWER than '..Said'. Prove '..Said' where nothing that the law and all that it calls make is longer than what came in: it says more and counts as full. Else prove '..UptoSaid'. A law counts once. -/
mutual
def uptoBulk {H : Type} : DataW H → Nat
  | .lit (.string bytes) => bytes.length + 1
  | .lit _ => 1
  | .nil => 1
  | .ptr d => uptoBulk d + 1
  | .slice elems spare => uptoBulkAll elems + uptoBulkAll spare + 1
  | .agg parts => uptoBulkAll parts + 1
  | .iface _ d => uptoBulk d + 1
  | .map entries => uptoBulkEntries entries + 1
  | .held _ => 1
def uptoBulkAll {H : Type} : List (DataW H) → Nat
  | [] => 0
  | d :: r => uptoBulk d + uptoBulkAll r
def uptoBulkEntries {H : Type} : List (Lit × DataW H) → Nat
  | [] => 0
  | x :: r => uptoBulkEntry x + uptoBulkEntries r
def uptoBulkEntry {H : Type} : Lit × DataW H → Nat
  | (.string bytes, d) => bytes.length + uptoBulk d + 1
  | (_, d) => uptoBulk d + 1
 end
def uptoSmall : (H : Type) → List (DataW H) → Bool := fun _ ds => decide (uptoBulkAll ds ≤ 1048576)
def OpenSpec.upto (s : _root_.Go.ChangeSpec) : _root_.Go.OpenSpec := { _root_.Go.OpenSpec.ofChange s with cond := some uptoSmall }

/-- 'parcloselaw10.AttrChecks', WHERE WHAT IT READS IS OF BULK AT MOST 1048576: true; the input reads as it did. -/
def attrChecksUptoRow : OpenClaim := { program := "ytlejmpinfbmccaagreatdoor", sum := "1a4a0056c8359d84e5d5b43ed0da3dbd929bc04ce60f475918635f32642ac39c", func := "parclose/parcloselaw10.AttrChecks", spec := "attrChecks", inPlace := ["internal/bytealg.IndexByteString", "internal/reflectlite.ValueOf", "(internal/reflectlite.Value).Type", "(internal/reflectlite.Value).IsNil", "internal/reflectlite.TypeOf", "(internal/reflectlite.Value).Elem", "(internal/reflectlite.Value).Set"], unfollowed := true, recurses := true, named := ["parclose/sum.halved", "parclose/attr.errMark", "parclose/attr.errSeal", "parclose/attr.errWords", "errors.errorType"], apart := false, laid := [("errors.errorType", laid_errors_errorType), ("parclose/sum.halved", laid_parclose_sum_halved), ("parclose/attr.errMark", laid_parclose_attr_errMark), ("parclose/attr.errSeal", laid_parclose_attr_errSeal), ("parclose/attr.errWords", laid_parclose_attr_errWords)], narrowed := true }
def AttrChecksUptoSaid : Prop := attrChecksUptoRow.holds Tryz.pinned (OpenSpec.upto attrChecksSpec)

/-- 'parcloselaw10.AttrWrites', WHERE WHAT IT READS IS OF BULK AT MOST 1048576: true; the input reads as it did. -/
def attrWritesUptoRow : OpenClaim := { program := "ytlejmpinfbmccaagreatdoor", sum := "1a4a0056c8359d84e5d5b43ed0da3dbd929bc04ce60f475918635f32642ac39c", func := "parclose/parcloselaw10.AttrWrites", spec := "attrWrites", inPlace := ["internal/bytealg.IndexByteString", "internal/reflectlite.ValueOf", "(internal/reflectlite.Value).Type", "(internal/reflectlite.Value).IsNil", "internal/reflectlite.TypeOf", "(internal/reflectlite.Value).Elem", "(internal/reflectlite.Value).Set"], unfollowed := true, recurses := true, named := ["parclose/sum.halved", "parclose/attr.errMark", "parclose/attr.errSeal", "parclose/attr.errWords", "errors.errorType"], apart := false, laid := [("errors.errorType", laid_errors_errorType), ("parclose/sum.halved", laid_parclose_sum_halved), ("parclose/attr.errMark", laid_parclose_attr_errMark), ("parclose/attr.errSeal", laid_parclose_attr_errSeal), ("parclose/attr.errWords", laid_parclose_attr_errWords)], narrowed := true }
def AttrWritesUptoSaid : Prop := attrWritesUptoRow.holds Tryz.pinned (OpenSpec.upto attrWritesSpec)

/-- 'parcloselaw10.AttrReads', WHERE WHAT IT READS IS OF BULK AT MOST 1048576: true; the input reads as it did. -/
def attrReadsUptoRow : OpenClaim := { program := "ytlejmpinfbmccaagreatdoor", sum := "1a4a0056c8359d84e5d5b43ed0da3dbd929bc04ce60f475918635f32642ac39c", func := "parclose/parcloselaw10.AttrReads", spec := "attrReads", inPlace := ["internal/bytealg.IndexByteString", "internal/reflectlite.ValueOf", "(internal/reflectlite.Value).Type", "(internal/reflectlite.Value).IsNil", "internal/reflectlite.TypeOf", "(internal/reflectlite.Value).Elem", "(internal/reflectlite.Value).Set"], unfollowed := true, recurses := true, named := ["parclose/sum.halved", "parclose/attr.errMark", "parclose/attr.errSeal", "parclose/attr.errWords", "errors.errorType"], apart := false, laid := [("errors.errorType", laid_errors_errorType), ("parclose/sum.halved", laid_parclose_sum_halved), ("parclose/attr.errMark", laid_parclose_attr_errMark), ("parclose/attr.errSeal", laid_parclose_attr_errSeal), ("parclose/attr.errWords", laid_parclose_attr_errWords)], narrowed := true }
def AttrReadsUptoSaid : Prop := attrReadsUptoRow.holds Tryz.pinned (OpenSpec.upto attrReadsSpec)

/-- 'parcloselaw10.AttrBack', WHERE WHAT IT READS IS OF BULK AT MOST 1048576: true; the input reads as it did. -/
def attrBackUptoRow : OpenClaim := { program := "ytlejmpinfbmccaagreatdoor", sum := "1a4a0056c8359d84e5d5b43ed0da3dbd929bc04ce60f475918635f32642ac39c", func := "parclose/parcloselaw10.AttrBack", spec := "attrBack", inPlace := ["internal/bytealg.IndexByteString", "internal/reflectlite.ValueOf", "(internal/reflectlite.Value).Type", "(internal/reflectlite.Value).IsNil", "internal/reflectlite.TypeOf", "(internal/reflectlite.Value).Elem", "(internal/reflectlite.Value).Set"], unfollowed := true, recurses := true, named := ["parclose/sum.halved", "parclose/attr.errMark", "parclose/attr.errSeal", "parclose/attr.errWords", "errors.errorType"], apart := false, laid := [("errors.errorType", laid_errors_errorType), ("parclose/sum.halved", laid_parclose_sum_halved), ("parclose/attr.errMark", laid_parclose_attr_errMark), ("parclose/attr.errSeal", laid_parclose_attr_errSeal), ("parclose/attr.errWords", laid_parclose_attr_errWords)], narrowed := true }
def AttrBackUptoSaid : Prop := attrBackUptoRow.holds Tryz.pinned (OpenSpec.upto attrBackSpec)

/-- 'parcloselaw10.AttrOwn', WHERE WHAT IT READS IS OF BULK AT MOST 1048576: true; the input reads as it did. -/
def attrOwnUptoRow : OpenClaim := { program := "ytlejmpinfbmccaagreatdoor", sum := "1a4a0056c8359d84e5d5b43ed0da3dbd929bc04ce60f475918635f32642ac39c", func := "parclose/parcloselaw10.AttrOwn", spec := "attrOwn", inPlace := ["internal/bytealg.IndexByteString", "internal/reflectlite.ValueOf", "(internal/reflectlite.Value).Type", "(internal/reflectlite.Value).IsNil", "internal/reflectlite.TypeOf", "(internal/reflectlite.Value).Elem", "(internal/reflectlite.Value).Set"], unfollowed := true, recurses := true, named := ["parclose/sum.halved", "parclose/attr.errMark", "parclose/attr.errSeal", "parclose/attr.errWords", "errors.errorType"], apart := false, laid := [("errors.errorType", laid_errors_errorType), ("parclose/sum.halved", laid_parclose_sum_halved), ("parclose/attr.errMark", laid_parclose_attr_errMark), ("parclose/attr.errSeal", laid_parclose_attr_errSeal), ("parclose/attr.errWords", laid_parclose_attr_errWords)], narrowed := true }
def AttrOwnUptoSaid : Prop := attrOwnUptoRow.holds Tryz.pinned (OpenSpec.upto attrOwnSpec)

end Rows
end Go.Proofs.YtlejmpinfbmccaaGreatDoor
