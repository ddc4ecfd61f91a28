/- What the listed variables give the walks, and the start that meets the condition; a geometry and a record as arguments. -/
import Derived.Test.YtppnicdhahgigaaDoorRows
import Derived.Test.YtppnicdhahgigaaDoorSum1
import Derived.Test.YtppnicdhahgigaaDoorErr0
import Derived.Test.YtppnicdhahgigaaDoorGeoCk
import Derived.Test.YtppnicdhahgigaaDoorKit
import Derived.ProofKit
import Derived.LaidMore
import Derived.LaidHandle
import Derived.OpenShut
import Derived.Stop.Joined
import Derived.Lib.LaidTab
import Derived.Deep.Slices
import Derived.Deep.Fields
import Derived.ChangeSame
import Derived.Lib.SmallJoins
import Derived.Laws.IdiomArrays
import Derived.Test.YtppnicdhahgigaaDoorIRef4
namespace Go.Proofs.YtppnicdhahgigaaDoor
open Go.Joins Go.ChangeShapes Go.WideShapes Go.ChangeAt Go.WideMaps Go.WideElems Go.RowKit Go.Deep

theorem own : ownKnob Tryd.prog.godebug = none := by kernel_rfl
theorem laidOut : laidOutB Tryd.prog = true := by kernel_rfl
theorem gTab : Tryd.prog.globalNamed "parclose/sum.halved" = some 1 := by kernel_rfl
theorem gErr : Tryd.prog.globalNamed "errors.errorType" = some 0 := by kernel_rfl
theorem tTab : (Tryd.prog.globals[1]?).map (·.type) = some 126 := by kernel_rfl
theorem rtErr : (Tryd.prog.cutTypes.find? (·.1 == "internal/reflectlite.rtype")).map (·.2) = some 108 := by kernel_rfl
theorem rowErr : ((List.range Tryd.prog.types.size).filter fun t => Tryd.prog.rowNamed t [101, 114, 114, 111, 114]) = [40] := by kernel_rfl
/-- The list of the rows. -/
def laidL : List (String × DataW Unit) := [("errors.errorType", Rows.laid_errors_errorType), ("parclose/sum.halved", Rows.laid_parclose_sum_halved)]
theorem door_met (os : Os) (args : Array Value) : laidMetH Tryd.prog laidL ((World.doorLaid Tryd.prog 21 os).forCall (fun _ _ => 0) ⟨#[], args, []⟩).memory :=
  laidMetH_of_parts3 (fuel := 8) (laidMet_of_run' (l := [("parclose/sum.halved", Rows.laid_parclose_sum_halved)]) 8 (by kernel_rfl) (by kernel_rfl)) (by kernel_rfl) (by kernel_rfl)
def tabInts : List Int := SumMath.tab.map fun (x : Nat) => (x : Int)
theorem tab_data : (Rows.laid_parclose_sum_halved : DataW Unit) = Lib.tabData .u32 tabInts := by rfl
theorem laid_parts {W : World} (h : laidMetH Tryd.prog laidL W) : laidMet Tryd.prog [("parclose/sum.halved", Rows.laid_parclose_sum_halved)] W ∧ handlesMet Tryd.prog [("errors.errorType", Rows.laid_errors_errorType)] W := h
theorem tab_of_laid {W : World} (h : laidMetH Tryd.prog laidL W) : TabAt W := by
  have h := (laid_parts h).1
  rw [tab_data] at h
  have ht := Lib.tabIs_of_head gTab tTab Tryd.underlying126 Tryd.underlying22 (by kernel_rfl) (by kernel_rfl) h
  intro j hj
  have := ht.cell gTab j (by simpa [tabInts, SumMath.tab] using hj)
  rw [this]
  unfold tabInts
  simp only [List.getD_eq_getElem?_getD, List.getElem?_map]
  have hj' : j < SumMath.tab.length := by simpa [SumMath.tab] using hj
  rw [List.getElem?_eq_getElem hj']
  rfl
theorem err_of_laid {W : World} (h : laidMetH Tryd.prog laidL W) : ErrAt W := by
  obtain ⟨name, u, ty, e1, e2, e3, e4, e5⟩ := (laid_parts h).2 _ (List.mem_singleton.2 rfl)
  have en : name = [101, 114, 114, 111, 114] := (Option.some.inj e1).symm
  subst en
  obtain rfl := Option.some.inj (rtErr.symm.trans e2)
  have hm : ty ∈ (List.range Tryd.prog.types.size).filter fun t => Tryd.prog.rowNamed t [101, 114, 114, 111, 114] := List.mem_filter.2 ⟨List.mem_range.2 e3, e4⟩
  rw [rowErr] at hm
  obtain rfl := List.mem_singleton.1 hm
  have hh : typeHandle Tryd.prog 40 = .pointer (some ⟨2, 40, none⟩) := by kernel_rfl
  rw [hh] at e5
  have := World.var?_cell gErr e5 0
  unfold ErrAt
  simpa using this
set_option maxRecDepth 100000 in
theorem open_geom {H : Type} {enc : TypeId × Value → H} {w : World} {base : Nat} {v : Value} {d : DataW H} {ps : List MemPlace} (hok : Value.okWide Tryd.prog w .any base 27 v) (h : DataW.Trod enc Tryd.prog w 0 (fun _ => true) true 27 v d ps) :
    ∃ P I B : Int, v = gv P I B := by
  obtain ⟨v0, v1, v2, y0, y1, y2, n, rfl, _, _, t0, t1, t2⟩ := open_agg3 Tryd.underlying27 (by kernel_rfl) (by kernel_rfl) hok h
  obtain ⟨n0, e0, _, _⟩ := DataW.trod_int Tryd.underlying3 t0
  obtain ⟨n1, e1, _, _⟩ := DataW.trod_int Tryd.underlying3 t1
  obtain ⟨n2, e2, _, _⟩ := DataW.trod_int Tryd.underlying3 t2
  injection e0 with e0
  injection e1 with e1
  injection e2 with e2
  subst e0 e1 e2
  exact ⟨n0, n1, n2, rfl⟩
set_option maxRecDepth 100000 in
theorem open_ino {H : Type} {enc : TypeId × Value → H} {w : World} {base : Nat} {v : Value} {d : DataW H} {ps : List MemPlace} (hok : Value.okWide Tryd.prog w .any base 25 v) (h : DataW.Trod enc Tryd.prog w 0 (fun _ => true) true 25 v d ps) :
    ∃ x : Ino, v = x.v ∧ Typ x := by
  obtain ⟨cs, rfl, hsz⟩ := okWide_struct Tryd.underlying25 hok
  obtain ⟨fuel, hf⟩ := h
  obtain ⟨xs, n, _, _, _, hlen, hfx⟩ := DataW.trod_struct Tryd.underlying25 hf
  have hC : Tryd.prog.cellsOf 25 = 13 := by kernel_rfl
  rw [hC] at hsz
  obtain ⟨cs⟩ := cs
  obtain ⟨c0, c1, c2, c3, c4, c5, c6, c7, c8, c9, c10, c11, c12, rfl⟩ : ∃ c0 c1 c2 c3 c4 c5 c6 c7 c8 c9 c10 c11 c12, cs = [c0, c1, c2, c3, c4, c5, c6, c7, c8, c9, c10, c11, c12] := by
    match cs, hsz with
    | [c0, c1, c2, c3, c4, c5, c6, c7, c8, c9, c10, c11, c12], _ => exact ⟨c0, c1, c2, c3, c4, c5, c6, c7, c8, c9, c10, c11, c12, rfl⟩
  obtain ⟨y0, y1, y2, y3, y4, y5, y6, y7, y8, y9, rfl⟩ : ∃ y0 y1 y2 y3 y4 y5 y6 y7 y8 y9, xs = [y0, y1, y2, y3, y4, y5, y6, y7, y8, y9] := by
    match xs, hlen with
    | [y0, y1, y2, y3, y4, y5, y6, y7, y8, y9], _ => exact ⟨y0, y1, y2, y3, y4, y5, y6, y7, y8, y9, rfl⟩
  have k0 : Tryd.prog.cellsOf 5 = 1 := by kernel_rfl
  have k1 : Tryd.prog.cellsOf 3 = 1 := by kernel_rfl
  have k2 : Tryd.prog.cellsOf 22 = 1 := by kernel_rfl
  have k3 : Tryd.prog.cellsOf 2 = 1 := by kernel_rfl
  have k4 : Tryd.prog.cellsOf 23 = 4 := by kernel_rfl
  have t0 : DataW.trod enc Tryd.prog w 0 (fun _ => true) true n 5 [c0] = some y0 := by simpa [Value.cells, k0, k1, k2, k3, k4] using hfx 0 _ rfl
  have t1 : DataW.trod enc Tryd.prog w 0 (fun _ => true) true n 3 [c1] = some y1 := by simpa [Value.cells, k0, k1, k2, k3, k4] using hfx 1 _ rfl
  have t2 : DataW.trod enc Tryd.prog w 0 (fun _ => true) true n 22 [c2] = some y2 := by simpa [Value.cells, k0, k1, k2, k3, k4] using hfx 2 _ rfl
  have t3 : DataW.trod enc Tryd.prog w 0 (fun _ => true) true n 2 [c3] = some y3 := by simpa [Value.cells, k0, k1, k2, k3, k4] using hfx 3 _ rfl
  have t4 : DataW.trod enc Tryd.prog w 0 (fun _ => true) true n 3 [c4] = some y4 := by simpa [Value.cells, k0, k1, k2, k3, k4] using hfx 4 _ rfl
  have t5 : DataW.trod enc Tryd.prog w 0 (fun _ => true) true n 3 [c5] = some y5 := by simpa [Value.cells, k0, k1, k2, k3, k4] using hfx 5 _ rfl
  have t6 : DataW.trod enc Tryd.prog w 0 (fun _ => true) true n 23 [c6, c7, c8, c9] = some y6 := by simpa [Value.cells, k0, k1, k2, k3, k4] using hfx 6 _ rfl
  have t7 : DataW.trod enc Tryd.prog w 0 (fun _ => true) true n 3 [c10] = some y7 := by simpa [Value.cells, k0, k1, k2, k3, k4] using hfx 7 _ rfl
  have t8 : DataW.trod enc Tryd.prog w 0 (fun _ => true) true n 2 [c11] = some y8 := by simpa [Value.cells, k0, k1, k2, k3, k4] using hfx 8 _ rfl
  have t9 : DataW.trod enc Tryd.prog w 0 (fun _ => true) true n 2 [c12] = some y9 := by simpa [Value.cells, k0, k1, k2, k3, k4] using hfx 9 _ rfl
  obtain ⟨z0, z1, z2, z3, m, _, s0, s1, s2, s3⟩ := trod_array4 Tryd.underlying23 k1 t6
  obtain ⟨n0, e0, _, w0⟩ := DataW.trod_int Tryd.underlying5 t0
  injection e0 with e0
  obtain ⟨n1, e1, _, w1⟩ := DataW.trod_int Tryd.underlying3 t1
  injection e1 with e1
  obtain ⟨n2, e2, _, w2⟩ := DataW.trod_int Tryd.underlying22 t2
  injection e2 with e2
  obtain ⟨n3, e3, _, w3⟩ := DataW.trod_int Tryd.underlying2 t3
  injection e3 with e3
  obtain ⟨n4, e4, _, w4⟩ := DataW.trod_int Tryd.underlying3 t4
  injection e4 with e4
  obtain ⟨n5, e5, _, w5⟩ := DataW.trod_int Tryd.underlying3 t5
  injection e5 with e5
  obtain ⟨n6, e6, _, w6⟩ := DataW.trod_int Tryd.underlying3 s0
  injection e6 with e6
  obtain ⟨n7, e7, _, w7⟩ := DataW.trod_int Tryd.underlying3 s1
  injection e7 with e7
  obtain ⟨n8, e8, _, w8⟩ := DataW.trod_int Tryd.underlying3 s2
  injection e8 with e8
  obtain ⟨n9, e9, _, w9⟩ := DataW.trod_int Tryd.underlying3 s3
  injection e9 with e9
  obtain ⟨n10, e10, _, w10⟩ := DataW.trod_int Tryd.underlying3 t7
  injection e10 with e10
  obtain ⟨n11, e11, _, w11⟩ := DataW.trod_int Tryd.underlying2 t8
  injection e11 with e11
  obtain ⟨n12, e12, _, w12⟩ := DataW.trod_int Tryd.underlying2 t9
  injection e12 with e12
  subst e0 e1 e2 e3 e4 e5 e6 e7 e8 e9 e10 e11 e12
  exact ⟨⟨n0, n1, n2, n3, n4, n5, n6, n7, n8, n9, n10, n11, n12⟩, rfl, ⟨⟨(bounds_u8 w0).1, Int.lt_of_le_of_lt (bounds_u8 w0).2 (by decide)⟩, ⟨(bounds_i64 w1).1, Int.lt_of_le_of_lt (bounds_i64 w1).2 (by decide)⟩, ⟨(bounds_u32 w2).1, Int.lt_of_le_of_lt (bounds_u32 w2).2 (by decide)⟩, ⟨(bounds_i64 w3).1, Int.lt_of_le_of_lt (bounds_i64 w3).2 (by decide)⟩, ⟨(bounds_i64 w4).1, Int.lt_of_le_of_lt (bounds_i64 w4).2 (by decide)⟩, ⟨(bounds_i64 w5).1, Int.lt_of_le_of_lt (bounds_i64 w5).2 (by decide)⟩, ⟨(bounds_i64 w6).1, Int.lt_of_le_of_lt (bounds_i64 w6).2 (by decide)⟩, ⟨(bounds_i64 w7).1, Int.lt_of_le_of_lt (bounds_i64 w7).2 (by decide)⟩, ⟨(bounds_i64 w8).1, Int.lt_of_le_of_lt (bounds_i64 w8).2 (by decide)⟩, ⟨(bounds_i64 w9).1, Int.lt_of_le_of_lt (bounds_i64 w9).2 (by decide)⟩, ⟨(bounds_i64 w10).1, Int.lt_of_le_of_lt (bounds_i64 w10).2 (by decide)⟩, ⟨(bounds_i64 w11).1, Int.lt_of_le_of_lt (bounds_i64 w11).2 (by decide)⟩, ⟨(bounds_i64 w12).1, Int.lt_of_le_of_lt (bounds_i64 w12).2 (by decide)⟩⟩⟩
end Go.Proofs.YtppnicdhahgigaaDoor
