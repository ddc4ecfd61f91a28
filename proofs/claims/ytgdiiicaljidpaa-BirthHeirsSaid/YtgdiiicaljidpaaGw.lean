/- A process as an argument. -/
import Derived.Test.YtgdiiicaljidpaaAtO
import Derived.Test.YtgdiiicaljidpaaGaT
set_option linter.unusedSimpArgs false
set_option linter.unusedVariables false
set_option linter.unusedSimpArgs false
set_option linter.unusedVariables false
namespace Go.Proofs.Ytgdiiicaljidpaa
open Go.Joins Go.ChangeShapes Go.WideShapes Go.ChangeAt Go.WideMaps Go.WideElems Go.RowKit Go.Deep
theorem own : ownKnob Try.prog.godebug = none := by kernel_rfl
theorem laidOut : laidOutB Try.prog = true := by kernel_rfl
section
variable {H : Type} {enc : TypeId × Value → H} {w : World}
set_option maxRecDepth 100000 in
/-- A row of groups. -/
theorem open_groups {fuel : Nat} {c : Value} {x : DataW H × List MemPlace} (hf : DataW.trod enc Try.prog w 0 (fun _ => true) true fuel 23 [c] = some x) :
    ∃ A cap L, c = .slice A (List.length L) cap ∧ Cel w A (hv L) ∧ L.length ≤ 9223372036854775807 ∧ (∀ g ∈ L, g < 65536) ∧ L.length ≤ cap := by
  rcases open_ints Try.underlying23 Try.underlying22 (by kernel_rfl) hf with ⟨hcs, _⟩ | ⟨a, len, cap, zs, hcs, _, hl, hm, hz, _, hcell, hwz⟩
  · injection hcs with hcs
    subst hcs
    exact ⟨none, 0, [], rfl, Cel.nil _ _, by simp, (fun g h => by simp at h), by simp⟩
  · injection hcs with hcs
    subst hcs
    have hlz : len ≤ zs.length := by rw [hz]; split <;> omega
    have hget : ∀ k u, (hv ((zs.take len).map Int.toNat))[k]? = some u → w.cell? (a.add k) = some u := by
      intro k u hu
      have hk : k < len := by
        have := (List.getElem?_eq_some_iff.1 hu).1
        rw [hv_length, List.length_map, List.length_take] at this
        omega
      have hk2 : zs[k]? = some zs[k] := List.getElem?_eq_getElem (by omega)
      have hw := bounds_u16 (hwz _ (List.mem_of_getElem? hk2))
      have h1 := hcell k (by omega)
      rw [h1]
      rw [← hu]
      unfold hv
      rw [List.getElem?_map, List.getElem?_map, List.getElem?_take_of_lt hk, hk2]
      simp only [Option.map_some, List.getD_eq_getElem?_getD, hk2, Option.getD_some]
      congr 2
      omega
    refine ⟨some a, cap, (zs.take len).map Int.toNat, by rw [List.length_map, List.length_take, Nat.min_eq_left hlz], fun h0 => ?_, by rw [List.length_map, List.length_take]; unfold maxLen at hm; omega, fun g hg => ?_, by rw [List.length_map, List.length_take]; omega⟩
    · refine ⟨a, rfl, ?_, hget⟩
      obtain ⟨u, hu⟩ : ∃ u, (hv ((zs.take len).map Int.toNat))[0]? = some u := ⟨_, List.getElem?_eq_getElem h0⟩
      have := block_lt_of_cell (hget 0 u hu)
      rwa [add_block] at this
    · rw [List.mem_map] at hg
      obtain ⟨z, hz2, rfl⟩ := hg
      have := bounds_u16 (hwz z (List.mem_of_mem_take hz2))
      omega
set_option maxRecDepth 100000 in
theorem open_cred {base : Nat} {v : Value} {d : DataW H} {ps : List MemPlace} (hok : Value.okWide Try.prog w .any base 25 v) (h : DataW.Trod enc Try.prog w 0 (fun _ => true) true 25 v d ps) :
    ∃ (c : Cr) (A : Option Addr) (n : Nat), v = c.v A n ∧ CLies w c A ∧ c.ui < 65536 ∧ c.gi < 65536 ∧ (∀ g ∈ c.gs, g < 65536) ∧ c.gs.length ≤ n := by
  obtain ⟨cs, rfl, hsz⟩ := okWide_struct Try.underlying25 hok
  obtain ⟨fuel, hf⟩ := h
  obtain ⟨xs, n, _, _, _, hlen, hfx⟩ := DataW.trod_struct Try.underlying25 hf
  have hC : Try.prog.cellsOf 25 = 4 := by kernel_rfl
  rw [hC] at hsz
  obtain ⟨cs⟩ := cs
  obtain ⟨c0, c1, c2, c3, rfl⟩ : ∃ c0 c1 c2 c3, cs = [c0, c1, c2, c3] := by
    match cs, hsz with
    | [c0, c1, c2, c3], _ => exact ⟨c0, c1, c2, c3, rfl⟩
  obtain ⟨y0, y1, y2, y3, rfl⟩ : ∃ y0 y1 y2 y3, xs = [y0, y1, y2, y3] := by
    match xs, hlen with
    | [y0, y1, y2, y3], _ => exact ⟨y0, y1, y2, y3, rfl⟩
  have k1 : Try.prog.cellsOf 22 = 1 := by kernel_rfl
  have k2 : Try.prog.cellsOf 4 = 1 := by kernel_rfl
  have k4 : Try.prog.cellsOf 23 = 1 := by kernel_rfl
  have t0 : DataW.trod enc Try.prog w 0 (fun _ => true) true n 22 [c0] = some y0 := by simpa [Value.cells, k1, k2, k4] using hfx 0 _ rfl
  have t1 : DataW.trod enc Try.prog w 0 (fun _ => true) true n 22 [c1] = some y1 := by simpa [Value.cells, k1, k2, k4] using hfx 1 _ rfl
  have t2 : DataW.trod enc Try.prog w 0 (fun _ => true) true n 23 [c2] = some y2 := by simpa [Value.cells, k1, k2, k4] using hfx 2 _ rfl
  have t3 : DataW.trod enc Try.prog w 0 (fun _ => true) true n 4 [c3] = some y3 := by simpa [Value.cells, k1, k2, k4] using hfx 3 _ rfl
  obtain ⟨n0, e0, _, w0⟩ := DataW.trod_int Try.underlying22 t0
  injection e0 with e0
  obtain ⟨n1, e1, _, w1⟩ := DataW.trod_int Try.underlying22 t1
  injection e1 with e1
  obtain ⟨X, cx, L, e2, l2, b2, g2, k2⟩ := open_groups t2
  obtain ⟨hd, e3, _⟩ := DataW.trod_bool Try.underlying4 t3
  injection e3 with e3
  have b0 := bounds_u16 w0
  have b1 := bounds_u16 w1
  obtain ⟨z0, rfl⟩ := Int.eq_ofNat_of_zero_le b0.1
  obtain ⟨z1, rfl⟩ := Int.eq_ofNat_of_zero_le b1.1
  subst e0 e1 e2 e3
  exact ⟨⟨z0, z1, L, hd⟩, X, cx, rfl, ⟨l2, b2⟩, by show z0 < 65536; omega, by show z1 < 65536; omega, g2, k2⟩
end
end Go.Proofs.Ytgdiiicaljidpaa
