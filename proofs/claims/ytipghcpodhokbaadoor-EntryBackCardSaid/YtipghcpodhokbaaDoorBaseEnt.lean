/- What the listed variables give the walks, and the start that meets the condition; a geometry, a slot and a directory's block as arguments. -/
import Derived.Test.YtipghcpodhokbaaDoorRows
import Derived.Test.YtipghcpodhokbaaDoorSumT
import Derived.Test.YtipghcpodhokbaaDoorErrT
import Derived.Test.YtipghcpodhokbaaDoorGeoCk
import Derived.Test.YtipghcpodhokbaaDoorKit
import Derived.ProofKit
import Derived.LaidMore
import Derived.LaidHandle
import Derived.OpenShut
import Derived.Stop.Joined
import Derived.Lib.LaidTab
import Derived.Deep.Slices
import Derived.Deep.Fields
import Derived.ChangeSame
import Derived.Lib.SmallJoins
import Derived.Laws.IdiomArrays
import Derived.Test.YtipghcpodhokbaaDoorDbMath
set_option linter.unusedSimpArgs false
set_option linter.unusedVariables false
namespace Go.Proofs.YtipghcpodhokbaaDoor
open Go.Joins Go.ChangeShapes Go.WideShapes Go.ChangeAt Go.WideMaps Go.WideElems Go.RowKit Go.Deep

theorem own : ownKnob Tryd.prog.godebug = none := by kernel_rfl
theorem laidOut : laidOutB Tryd.prog = true := by kernel_rfl
theorem gTab : Tryd.prog.globalNamed "parclose/sum.halved" = some 1 := by kernel_rfl
theorem gErr : Tryd.prog.globalNamed "errors.errorType" = some 0 := by kernel_rfl
theorem tTab : (Tryd.prog.globals[1]?).map (·.type) = some 132 := by kernel_rfl
theorem rtErr : (Tryd.prog.cutTypes.find? (·.1 == "internal/reflectlite.rtype")).map (·.2) = some 116 := by kernel_rfl
theorem rowErr : ((List.range Tryd.prog.types.size).filter fun t => Tryd.prog.rowNamed t [101, 114, 114, 111, 114]) = [48] := by kernel_rfl
/-- The list of the rows. -/
def laidL : List (String × DataW Unit) := [("errors.errorType", Rows.laid_errors_errorType), ("parclose/sum.halved", Rows.laid_parclose_sum_halved)]
theorem door_met (os : Os) (args : Array Value) : laidMetH Tryd.prog laidL ((World.doorLaid Tryd.prog 21 os).forCall (fun _ _ => 0) ⟨#[], args, []⟩).memory :=
  laidMetH_of_parts3 (fuel := 8) (laidMet_of_run' (l := [("parclose/sum.halved", Rows.laid_parclose_sum_halved)]) 8 (by kernel_rfl) (by kernel_rfl)) (by kernel_rfl) (by kernel_rfl)
def tabInts : List Int := SumMath.tab.map fun (x : Nat) => (x : Int)
theorem tab_data : (Rows.laid_parclose_sum_halved : DataW Unit) = Lib.tabData .u32 tabInts := by rfl
theorem laid_parts {W : World} (h : laidMetH Tryd.prog laidL W) : laidMet Tryd.prog [("parclose/sum.halved", Rows.laid_parclose_sum_halved)] W ∧ handlesMet Tryd.prog [("errors.errorType", Rows.laid_errors_errorType)] W := h
theorem tab_of_laid {W : World} (h : laidMetH Tryd.prog laidL W) : TabAt W := by
  have h := (laid_parts h).1
  rw [tab_data] at h
  have ht := Lib.tabIs_of_head gTab tTab Tryd.underlying132 Tryd.underlying62 (by kernel_rfl) (by kernel_rfl) h
  intro j hj
  have := ht.cell gTab j (by simpa [tabInts, SumMath.tab] using hj)
  rw [this]
  unfold tabInts
  simp only [List.getD_eq_getElem?_getD, List.getElem?_map]
  have hj' : j < SumMath.tab.length := by simpa [SumMath.tab] using hj
  rw [List.getElem?_eq_getElem hj']
  rfl
theorem err_of_laid {W : World} (h : laidMetH Tryd.prog laidL W) : ErrAt W := by
  obtain ⟨name, u, ty, e1, e2, e3, e4, e5⟩ := (laid_parts h).2 _ (List.mem_singleton.2 rfl)
  have en : name = [101, 114, 114, 111, 114] := (Option.some.inj e1).symm
  subst en
  obtain rfl := Option.some.inj (rtErr.symm.trans e2)
  have hm : ty ∈ (List.range Tryd.prog.types.size).filter fun t => Tryd.prog.rowNamed t [101, 114, 114, 111, 114] := List.mem_filter.2 ⟨List.mem_range.2 e3, e4⟩
  rw [rowErr] at hm
  obtain rfl := List.mem_singleton.1 hm
  have hh : typeHandle Tryd.prog 48 = .pointer (some ⟨3, 48, none⟩) := by kernel_rfl
  rw [hh] at e5
  have := World.var?_cell gErr e5 0
  unfold ErrAt
  simpa using this
set_option maxRecDepth 100000 in
theorem open_geom {H : Type} {enc : TypeId × Value → H} {w : World} {base : Nat} {v : Value} {d : DataW H} {ps : List MemPlace} (hok : Value.okWide Tryd.prog w .any base 28 v) (h : DataW.Trod enc Tryd.prog w 0 (fun _ => true) true 28 v d ps) :
    ∃ P I B : Int, v = gv P I B := by
  obtain ⟨v0, v1, v2, y0, y1, y2, n, rfl, _, _, t0, t1, t2⟩ := open_agg3 Tryd.underlying28 (by kernel_rfl) (by kernel_rfl) hok h
  obtain ⟨n0, e0, _, _⟩ := DataW.trod_int Tryd.underlying3 t0
  obtain ⟨n1, e1, _, _⟩ := DataW.trod_int Tryd.underlying3 t1
  obtain ⟨n2, e2, _, _⟩ := DataW.trod_int Tryd.underlying3 t2
  injection e0 with e0
  injection e1 with e1
  injection e2 with e2
  subst e0 e1 e2
  exact ⟨n0, n1, n2, rfl⟩
theorem slot_of {H : Type} {enc : TypeId × Value → H} {w : World} {n : Nat} {c0 c1 c2 : Value} {y : DataW H × List MemPlace} (h : DataW.trod enc Tryd.prog w 0 (fun _ => true) true n 23 [c0, c1, c2] = some y) :
    ∃ x : Slt, [c0, c1, c2] = [.int .i64 x.I, .int .u8 x.K, .string x.S] := by
  obtain ⟨xs, m, _, _, _, hlen, hfx⟩ := DataW.trod_struct Tryd.underlying23 h
  obtain ⟨y0, y1, y2, rfl⟩ : ∃ y0 y1 y2, xs = [y0, y1, y2] := by
    match xs, hlen with
    | [y0, y1, y2], _ => exact ⟨y0, y1, y2, rfl⟩
  have k0 : Tryd.prog.cellsOf 5 = 1 := by kernel_rfl
  have k1 : Tryd.prog.cellsOf 3 = 1 := by kernel_rfl
  have k2 : Tryd.prog.cellsOf 9 = 1 := by kernel_rfl
  have t0 : DataW.trod enc Tryd.prog w 0 (fun _ => true) true m 3 [c0] = some y0 := by simpa [k0, k1, k2] using hfx 0 _ rfl
  have t1 : DataW.trod enc Tryd.prog w 0 (fun _ => true) true m 5 [c1] = some y1 := by simpa [k0, k1, k2] using hfx 1 _ rfl
  have t2 : DataW.trod enc Tryd.prog w 0 (fun _ => true) true m 9 [c2] = some y2 := by simpa [k0, k1, k2] using hfx 2 _ rfl
  obtain ⟨n0, e0, _, _⟩ := DataW.trod_int Tryd.underlying3 t0
  obtain ⟨n1, e1, _, _⟩ := DataW.trod_int Tryd.underlying5 t1
  obtain ⟨s2, e2, _, _⟩ := DataW.trod_string Tryd.underlying9 t2
  injection e0 with e0
  injection e1 with e1
  injection e2 with e2
  subst e0 e1 e2
  exact ⟨⟨n0, n1, s2⟩, rfl⟩
set_option maxRecDepth 100000 in
theorem open_slot {H : Type} {enc : TypeId × Value → H} {w : World} {base : Nat} {v : Value} {d : DataW H} {ps : List MemPlace} (hok : Value.okWide Tryd.prog w .any base 23 v) (h : DataW.Trod enc Tryd.prog w 0 (fun _ => true) true 23 v d ps) :
    ∃ x : Slt, v = x.v := by
  obtain ⟨cs, rfl, hsz⟩ := okWide_struct Tryd.underlying23 hok
  obtain ⟨fuel, hf⟩ := h
  have hC : Tryd.prog.cellsOf 23 = 3 := by kernel_rfl
  rw [hC] at hsz
  obtain ⟨cs⟩ := cs
  obtain ⟨c0, c1, c2, rfl⟩ : ∃ c0 c1 c2, cs = [c0, c1, c2] := by
    match cs, hsz with
    | [c0, c1, c2], _ => exact ⟨c0, c1, c2, rfl⟩
  obtain ⟨x, hx⟩ := slot_of hf
  refine ⟨x, ?_⟩
  injection hx with e0 hx
  injection hx with e1 hx
  injection hx with e2 _
  subst e0 e1 e2
  rfl
theorem slots_of {H : Type} {enc : TypeId × Value → H} {w : World} {m : Nat} : ∀ (n : Nat) (cs : List Value), cs.length = 3 * n → (∀ i, i < n → ∃ y, DataW.trod enc Tryd.prog w 0 (fun _ => true) true m 23 ((cs.drop (i * 3)).take 3) = some y) → ∃ L : List Slt, L.length = n ∧ cs = slcs L
  | 0, cs, hl, _ => ⟨[], rfl, by
    have h0 : cs = [] := List.length_eq_zero_iff.1 (by simpa using hl)
    rw [h0]; rfl⟩
  | n + 1, cs, hl, h => by
    obtain ⟨c0, c1, c2, r, rfl⟩ : ∃ c0 c1 c2 r, cs = c0 :: c1 :: c2 :: r := by
      match cs, hl with
      | c0 :: c1 :: c2 :: r, _ => exact ⟨c0, c1, c2, r, rfl⟩
      | [], h => simp at h
      | [_], h => simp at h; omega
      | [_, _], h => simp at h; omega
    obtain ⟨y, hy⟩ := h 0 (by omega)
    obtain ⟨x, hx⟩ := slot_of (c0 := c0) (c1 := c1) (c2 := c2) (by simpa using hy)
    obtain ⟨L, hL, hr⟩ := slots_of n r (by simp at hl; omega) fun i hi => by
      obtain ⟨y, hy⟩ := h (i + 1) (by omega)
      refine ⟨y, ?_⟩
      rw [show (i + 1) * 3 = i * 3 + 1 + 1 + 1 by omega] at hy
      simpa using hy
    injection hx with e0 hx
    injection hx with e1 hx
    injection hx with e2 _
    subst e0 e1 e2
    exact ⟨x :: L, by simp [hL], by rw [hr]; rfl⟩
set_option maxRecDepth 100000 in
theorem open_db {H : Type} {enc : TypeId × Value → H} {w : World} {base : Nat} {v : Value} {d : DataW H} {ps : List MemPlace} (hok : Value.okWide Tryd.prog w .any base 26 v) (h : DataW.Trod enc Tryd.prog w 0 (fun _ => true) true 26 v d ps) :
    ∃ x : Dbl, v = x.v ∧ x.L.length = 10 := by
  obtain ⟨cs, rfl, hsz⟩ := okWide_struct Tryd.underlying26 hok
  obtain ⟨fuel, hf⟩ := h
  obtain ⟨xs, n, _, _, _, hlen, hfx⟩ := DataW.trod_struct Tryd.underlying26 hf
  have hC : Tryd.prog.cellsOf 26 = 31 := by kernel_rfl
  rw [hC] at hsz
  obtain ⟨cs⟩ := cs
  obtain ⟨c0, r, rfl, hr⟩ : ∃ c0 r, cs = c0 :: r ∧ r.length = 30 := by
    match cs, hsz with
    | c0 :: r, h => exact ⟨c0, r, rfl, by simpa using h⟩
  obtain ⟨y0, y1, rfl⟩ : ∃ y0 y1, xs = [y0, y1] := by
    match xs, hlen with
    | [y0, y1], _ => exact ⟨y0, y1, rfl⟩
  have k1 : Tryd.prog.cellsOf 3 = 1 := by kernel_rfl
  have k2 : Tryd.prog.cellsOf 24 = 30 := by kernel_rfl
  have k3 : Tryd.prog.cellsOf 23 = 3 := by kernel_rfl
  have hr30 : r.take 30 = r := List.take_of_length_le (by omega)
  have t0 : DataW.trod enc Tryd.prog w 0 (fun _ => true) true n 3 [c0] = some y0 := by simpa [Value.cells, k1, k2] using hfx 0 _ rfl
  have t1 : DataW.trod enc Tryd.prog w 0 (fun _ => true) true n 24 r = some y1 := by simpa [Value.cells, k1, k2, hr30] using hfx 1 _ rfl
  obtain ⟨n0, e0, _, _⟩ := DataW.trod_int Tryd.underlying3 t0
  injection e0 with e0
  subst e0
  obtain ⟨ys, m, _, _, _, hly, hy⟩ := DataW.trod_array Tryd.underlying24 t1
  rw [k3] at hy
  obtain ⟨L, hL, rfl⟩ := slots_of (m := m) 10 r (by omega) fun i hi => ⟨ys[i]'(by omega), by rw [hy i hi, List.getElem?_eq_getElem (by omega)]⟩
  exact ⟨⟨n0, L⟩, rfl, hL⟩
end Go.Proofs.YtipghcpodhokbaaDoor
