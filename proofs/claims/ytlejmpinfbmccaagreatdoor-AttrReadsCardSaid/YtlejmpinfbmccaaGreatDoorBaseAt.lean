/- What the listed variables give the walks, and the start that meets the condition. -/
import Derived.Test.YtlejmpinfbmccaaGreatDoorRows
import Derived.Test.YtlejmpinfbmccaaGreatDoorSumT
import Derived.Test.YtlejmpinfbmccaaGreatDoorErrT
import Derived.Test.YtlejmpinfbmccaaGreatDoorPl
import Derived.Test.YtlejmpinfbmccaaGreatDoorAtO
import Derived.Test.YtlejmpinfbmccaaGreatDoorKit
import Derived.ProofKit
import Derived.LaidMore
import Derived.LaidHandle
import Derived.OpenShut
import Derived.Stop.Joined
import Derived.Stop.LaidErr
import Derived.Lib.LaidTab
import Derived.Deep.Slices
import Derived.Deep.Fields
import Derived.ChangeSame
import Derived.Lib.SmallJoins
set_option linter.unusedSimpArgs false
set_option linter.unusedVariables false
namespace Go.Proofs.YtlejmpinfbmccaaGreatDoor
open Go.Joins Go.ChangeShapes Go.WideShapes Go.ChangeAt Go.WideMaps Go.WideElems Go.RowKit Go.Deep

theorem own : ownKnob Tryz.prog.godebug = none := by kernel_rfl
theorem laidOut : laidOutB Tryz.prog = true := by kernel_rfl
theorem gTab : Tryz.prog.globalNamed "parclose/sum.halved" = some 4 := by kernel_rfl
theorem gErr : Tryz.prog.globalNamed "errors.errorType" = some 3 := by kernel_rfl
theorem gM : Tryz.prog.globalNamed "parclose/attr.errMark" = some 0 := by kernel_rfl
theorem gS : Tryz.prog.globalNamed "parclose/attr.errSeal" = some 1 := by kernel_rfl
theorem gW : Tryz.prog.globalNamed "parclose/attr.errWords" = some 2 := by kernel_rfl
theorem tTab : (Tryz.prog.globals[4]?).map (·.type) = some 171 := by kernel_rfl
theorem tM : (Tryz.prog.globals[0]?).map (·.type) = some 45 := by kernel_rfl
theorem tS : (Tryz.prog.globals[1]?).map (·.type) = some 45 := by kernel_rfl
theorem tW : (Tryz.prog.globals[2]?).map (·.type) = some 45 := by kernel_rfl
theorem rtErr : (Tryz.prog.cutTypes.find? (·.1 == "internal/reflectlite.rtype")).map (·.2) = some 148 := by kernel_rfl
theorem rowErr : ((List.range Tryz.prog.types.size).filter fun t => Tryz.prog.rowNamed t [101, 114, 114, 111, 114]) = [45] := by kernel_rfl
theorem starErr : "*" ++ "errors.errorString" = "*errors.errorString" := by decide
theorem rowStr (u : TypeId) (h : Tryz.prog.typeName? 3 u = some "*errors.errorString") : u = 172 :=
  typeName_ptr_named (nm := "errors.errorString") (by rw [starErr]; kernel_rfl) (by kernel_rfl) (by decide) u (by rw [starErr]; exact h)
theorem cellsStr : Tryz.prog.cellsOf 193 = 1 := by kernel_rfl
theorem cellsString : Tryz.prog.cellsOf 9 = 1 := by kernel_rfl
/-- The list of the rows. -/
def laidL : List (String × DataW Unit) := [("errors.errorType", Rows.laid_errors_errorType), ("parclose/sum.halved", Rows.laid_parclose_sum_halved), ("parclose/attr.errMark", Rows.laid_parclose_attr_errMark), ("parclose/attr.errSeal", Rows.laid_parclose_attr_errSeal), ("parclose/attr.errWords", Rows.laid_parclose_attr_errWords)]
abbrev laidD : List (String × DataW Unit) := [("parclose/sum.halved", Rows.laid_parclose_sum_halved), ("parclose/attr.errMark", Rows.laid_parclose_attr_errMark), ("parclose/attr.errSeal", Rows.laid_parclose_attr_errSeal), ("parclose/attr.errWords", Rows.laid_parclose_attr_errWords)]
theorem door_met (os : Os) (args : Array Value) : laidMetH Tryz.prog laidL ((World.doorLaid Tryz.prog 78 os).forCall (fun _ _ => 0) ⟨#[], args, []⟩).memory :=
  laidMetH_of_parts3 (fuel := 8) (laidMet_of_run' (l := laidD) 8 (by kernel_rfl) (by kernel_rfl)) (by kernel_rfl) (by kernel_rfl)
def tabInts : List Int := SumMath.tab.map fun (x : Nat) => (x : Int)
theorem tab_data : (Rows.laid_parclose_sum_halved : DataW Unit) = Lib.tabData .u32 tabInts := by rfl
theorem laid_parts {W : World} (h : laidMetH Tryz.prog laidL W) : laidMet Tryz.prog laidD W ∧ handlesMet Tryz.prog [("errors.errorType", Rows.laid_errors_errorType)] W := h
theorem tab_of_laid {W : World} (h : laidMetH Tryz.prog laidL W) : TabAt W := by
  have h := (laid_parts h).1
  unfold laidD at h
  rw [tab_data] at h
  have ht := Lib.tabIs_of_head gTab tTab Tryz.underlying171 Tryz.underlying43 (by kernel_rfl) (by kernel_rfl) h
  intro j hj
  have := ht.cell gTab j (by simpa [tabInts, SumMath.tab] using hj)
  rw [this]
  unfold tabInts
  simp only [List.getD_eq_getElem?_getD, List.getElem?_map]
  have hj' : j < SumMath.tab.length := by simpa [SumMath.tab] using hj
  rw [List.getElem?_eq_getElem hj']
  rfl
theorem err_of_laid {W : World} (h : laidMetH Tryz.prog laidL W) : ErrAt W := by
  obtain ⟨name, u, ty, e1, e2, e3, e4, e5⟩ := (laid_parts h).2 _ (List.mem_singleton.2 rfl)
  have en : name = [101, 114, 114, 111, 114] := (Option.some.inj e1).symm
  subst en
  obtain rfl := Option.some.inj (rtErr.symm.trans e2)
  have hm : ty ∈ (List.range Tryz.prog.types.size).filter fun t => Tryz.prog.rowNamed t [101, 114, 114, 111, 114] := List.mem_filter.2 ⟨List.mem_range.2 e3, e4⟩
  rw [rowErr] at hm
  obtain rfl := List.mem_singleton.1 hm
  have hh : typeHandle Tryz.prog 45 = .pointer (some ⟨6, 45, none⟩) := by kernel_rfl
  rw [hh] at e5
  have := World.var?_cell gErr e5 0
  unfold ErrAt
  simpa using this
set_option maxRecDepth 100000 in
/-- The three errors are as their initialisers lay them: three places. -/
theorem sn_of_laid {W : World} (h : laidMetH Tryz.prog laidL W) : ∃ n, SnAt W n := by
  have h := (laid_parts h).1.tail
  obtain ⟨ps, ⟨g0, t0, cs0, f0, p0, q0, hg0, ht0, hv0, hd0, ⟨g1, t1, cs1, f1, p1, q1, hg1, ht1, hv1, hd1, ⟨g2, t2, cs2, f2, p2, q2, hg2, ht2, hv2, hd2, hq2, e2⟩, e1⟩, e0⟩, hnd, hrows⟩ := h
  obtain rfl := Option.some.inj (gM.symm.trans hg0)
  obtain rfl := Option.some.inj (gS.symm.trans hg1)
  obtain rfl := Option.some.inj (gW.symm.trans hg2)
  obtain rfl := Option.some.inj (tM.symm.trans ht0)
  obtain rfl := Option.some.inj (tS.symm.trans ht1)
  obtain rfl := Option.some.inj (tW.symm.trans ht2)
  have hq2' : q2 = [] := hq2
  subst hq2'
  subst e2
  subst e1
  subst e0
  obtain ⟨l0⟩ := cs0
  obtain ⟨l1⟩ := cs1
  obtain ⟨l2⟩ := cs2
  have c0 := World.var?_cell hg0 hv0 0
  have c1 := World.var?_cell hg1 hv1 0
  have c2 := World.var?_cell hg2 hv2 0
  have ok0 : ∀ u v, l0 = [.iface u v] → Value.okWide Tryz.prog W .any 0 u v := fun u v e => by
    subst e
    exact (hrows 0 0 (by simp [MemPlace.row])).2 u v (by simpa using c0)
  have ok1 : ∀ u v, l1 = [.iface u v] → Value.okWide Tryz.prog W .any 0 u v := fun u v e => by
    subst e
    exact (hrows 1 0 (by simp [MemPlace.row])).2 u v (by simpa using c1)
  have ok2 : ∀ u v, l2 = [.iface u v] → Value.okWide Tryz.prog W .any 0 u v := fun u v e => by
    subst e
    exact (hrows 2 0 (by simp [MemPlace.row])).2 u v (by simpa using c2)
  obtain ⟨a0, s0, rfl, _, _, _, rfl⟩ := errorString_of_trod Tryz.underlying45 rowStr Tryz.underlying172 Tryz.underlying193 rfl rfl Tryz.underlying9 cellsStr cellsString hd0 ok0
  obtain ⟨a1, s1, rfl, _, _, _, rfl⟩ := errorString_of_trod Tryz.underlying45 rowStr Tryz.underlying172 Tryz.underlying193 rfl rfl Tryz.underlying9 cellsStr cellsString hd1 ok1
  obtain ⟨a2, s2, rfl, _, _, _, rfl⟩ := errorString_of_trod Tryz.underlying45 rowStr Tryz.underlying172 Tryz.underlying193 rfl rfl Tryz.underlying9 cellsStr cellsString hd2 ok2
  refine ⟨⟨a0, a1, a2⟩, by simpa using c0, by simpa using c1, by simpa using c2, ?_, ?_, ?_, (hrows a0.block a0.off (by simp [MemPlace.row])).1, (hrows a1.block a1.off (by simp [MemPlace.row])).1, (hrows a2.block a2.off (by simp [MemPlace.row])).1⟩
  · intro e
    have e : a0 = a1 := e
    subst e
    simp [MemPlace.row] at hnd
  · intro e
    have e : a0 = a2 := e
    subst e
    simp [MemPlace.row] at hnd
  · intro e
    have e : a1 = a2 := e
    subst e
    simp [MemPlace.row] at hnd
end Go.Proofs.YtlejmpinfbmccaaGreatDoor
