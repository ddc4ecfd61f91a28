/- A path as an argument: two marks and a row of texts. -/
import Derived.Test.YtganpdplikbppaaDoorBaseNm
import Derived.Test.YtganpdplikbppaaDoorNm7
import Derived.SliceStrings
import Derived.Lib.SmallJoins
import Derived.ChangeArms
set_option linter.unusedSimpArgs false
set_option linter.unusedVariables false
namespace Go.Proofs.YtganpdplikbppaaDoor
open Go.Joins Go.ChangeShapes Go.WideShapes Go.ChangeAt Go.WideMaps Go.WideElems Go.RowKit

set_option maxRecDepth 100000 in
theorem open_path {H : Type} {enc : TypeId × Value → H} {w : World} {base : Nat} {v : Value} {dt : DataW H} {ps : List MemPlace} (hok : Value.okWide Tryd.prog w .any base 29 v) (h : DataW.Trod enc Tryd.prog w 0 (fun _ => true) true 29 v dt ps) :
    ∃ r d A c xs, v = pv r d A (List.length xs) c ∧ Cel w A (sv xs) ∧ xs.length ≤ 9223372036854775807 ∧ xs.length ≤ c := by
  obtain ⟨v0, v1, v2, y0, y1, y2, n, rfl, _, _, t0, t1, t2⟩ := open_agg3 Tryd.underlying29 (by kernel_rfl) (by kernel_rfl) hok h
  obtain ⟨b0, e0, _⟩ := DataW.trod_bool Tryd.underlying4 t0
  obtain ⟨b1, e1, _⟩ := DataW.trod_bool Tryd.underlying4 t1
  injection e0 with e0
  injection e1 with e1
  subst e0 e1
  rcases open_strings Tryd.underlying27 Tryd.underlying9 (by kernel_rfl) t2 with ⟨hcs, _⟩ | ⟨a, len, cap, ss, hcs, _, hl, hm, hz, _, hcell, _⟩
  · injection hcs with hcs
    subst hcs
    exact ⟨b0, b1, none, 0, [], rfl, Cel.nil _ _, by simp, by simp⟩
  · injection hcs with hcs
    subst hcs
    simp only [if_true] at hz
    have hlen : (ss.take len).length = len := by rw [List.length_take]; omega
    refine ⟨b0, b1, some a, cap, ss.take len, by rw [hlen]; rfl, fun h0 => ⟨a, rfl, ?_, fun j u hu => ?_⟩, by rw [hlen]; unfold maxLen at hm; omega, by rw [hlen]; exact hl⟩
    · rw [sv_length, hlen] at h0
      have hc0 := hcell 0 (by omega)
      rcases Nat.lt_or_ge a.block w.heap.size with h1 | h1
      · exact h1
      · exfalso
        have : w.heap[(a.add 0).block]? = none := by rw [add_block]; exact Array.getElem?_eq_none h1
        simp [World.cell?, this] at hc0
    · unfold sv at hu
      rw [List.getElem?_map] at hu
      obtain ⟨x, hx, rfl⟩ := Option.map_eq_some_iff.1 hu
      have hj : j < len := by have := (List.getElem?_eq_some_iff.1 hx).1; omega
      have hjs : j < ss.length := by omega
      rw [hcell j hjs]
      rw [List.getElem?_take_of_lt hj, List.getElem?_eq_getElem hjs] at hx
      injection hx with hx
      rw [List.getD_eq_getElem?_getD, List.getElem?_eq_getElem hjs, hx]
      rfl
end Go.Proofs.YtganpdplikbppaaDoor
