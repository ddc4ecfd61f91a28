/- Arguments opened: rows of ints, rows of steps. -/
import Derived.Test.YtaafchcpnceddaaDoorKit
import Derived.Test.YtaafchcpnceddaaDoorBase
import Derived.Test.YtaafchcpnceddaaDoorUa
import Derived.Deep.Slices
import Derived.Deep.Fields
import Derived.ChangeSame
set_option linter.unusedSimpArgs false
set_option linter.unusedVariables false
namespace Go.Proofs.YtaafchcpnceddaaDoor
open Go.ChangeShapes Go.WideShapes Go.RowKit Go.Deep WordMath
section
variable {H : Type} {enc : TypeId × Value → H} {P : Program}
/-- A row of ints. -/
theorem open_i64s {W : World} {base : Nat} {t e : TypeId} {v : Value} {d : DataW H} {ps : List MemPlace} (ht : P.underlying t = some (.slice e)) (he : P.underlying e = some (.int .i64)) (hc : P.cellsOf e = 1)
    (hok : Value.okWide P W .any base t v) (h : DataW.Trod enc P W 0 (fun _ => true) true t v d ps) : ∃ A c l, v = .slice A (List.length l) c ∧ Cel W A (iv l) ∧ l.length ≤ 9223372036854775807 := by
  obtain ⟨a0, len, cap, rfl⟩ := okWide_slice ht hok
  obtain ⟨fuel, hf⟩ := h
  rcases open_ints ht he hc hf with ⟨hcs, _⟩ | ⟨a, len', cap', zs, hcs, _, hl, hm, hz, _, hcell, hwz⟩
  · simp [Value.cells] at hcs
    obtain ⟨rfl, rfl, rfl⟩ := hcs
    exact ⟨none, 0, [], rfl, Cel.nil _ _, by simp⟩
  · simp [Value.cells] at hcs
    obtain ⟨rfl, rfl, rfl⟩ := hcs
    simp only [if_true] at hz
    have hlen : (zs.take len).length = len := by simp; omega
    refine ⟨some a, cap, zs.take len, by rw [hlen], fun h0 => ⟨a, rfl, ?_, fun j u hu => ?_⟩, by rw [hlen]; unfold maxLen at hm; omega⟩
    · rw [iv_length, hlen] at h0
      have hc0 := hcell 0 (by omega)
      rcases Nat.lt_or_ge a.block W.heap.size with h1 | h1
      · exact h1
      · exfalso
        have : W.heap[(a.add 0).block]? = none := by rw [add_block]; exact Array.getElem?_eq_none h1
        simp [World.cell?, this] at hc0
    · have hj : j < len := by have := (List.getElem?_eq_some_iff.1 hu).1; rw [iv_length, hlen] at this; exact this
      rw [iv_get _ j (by rw [hlen]; exact hj)] at hu
      rw [hcell j (by omega), ← hu, List.getD_eq_getElem?_getD, List.getD_eq_getElem?_getD, List.getElem?_take_of_lt hj]
end
/-- A step. -/
structure Sx where
  tk : Bool
  kk : Int
def sx0 : Sx := ⟨false, 0⟩
instance : Inhabited Sx := ⟨sx0⟩
/-- A slice at A reads as these steps. -/
def XRow (w : World) (A : Option Addr) (l : List Sx) : Prop :=
  0 < l.length → ∃ b o, A = some ⟨b, o, none⟩ ∧ b < w.heap.size ∧ ∀ k, k < l.length →
    w.cell? ⟨b, o + k * 2, none⟩ = some (.bool (l.getD k sx0).tk) ∧ w.cell? ⟨b, o + k * 2 + 1, none⟩ = some (.int .i64 (l.getD k sx0).kk)
theorem XRow.below {w w' : World} {A : Option Addr} {l : List Sx} (h : XRow w A l) (hb : Below w.heap.size w w') : XRow w' A l := fun h0 => by
  obtain ⟨b, o, e, hl, hc⟩ := h h0
  exact ⟨b, o, e, Nat.lt_of_lt_of_le hl hb.size, fun k hk => by
    obtain ⟨x0, x1⟩ := hc k hk
    exact ⟨(hb.cell (p := ⟨b, _, none⟩) hl).trans x0, (hb.cell (p := ⟨b, _, none⟩) hl).trans x1⟩⟩
theorem getD_map_range {α : Type} (f : Nat → α) (d : α) (n k : Nat) (h : k < n) : ((List.range n).map f).getD k d = f k := by
  simp [List.getD_eq_getElem?_getD, h]
section
variable {H : Type} {enc : TypeId × Value → H} {w : World}
theorem open_poolsteps {base : Nat} {v : Value} {d : DataW H} {ps : List MemPlace} (hok : Value.okWide Tryd.prog w .any base 41 v) (h : DataW.Trod enc Tryd.prog w 0 (fun _ => true) true 41 v d ps) :
    ∃ A c l, v = .slice A (List.length l) c ∧ XRow w A l ∧ l.length ≤ 9223372036854775807 ∧ ∀ k, k < l.length → -9223372036854775808 ≤ (l.getD k sx0).kk ∧ (l.getD k sx0).kk ≤ 9223372036854775807 := by
  obtain ⟨a0, len, cap, rfl⟩ := okWide_slice Tryd.underlying41 hok
  obtain ⟨fuel, hf⟩ := h
  rcases open_slice Tryd.underlying41 hf with ⟨hcs, _⟩ | ⟨a, len', cap', m, n, D, Pl, hcs, _, hl, hm, hmm, _, hx⟩
  · simp [Value.cells] at hcs
    obtain ⟨rfl, rfl, rfl⟩ := hcs
    exact ⟨none, 0, [], rfl, fun h => absurd h (by simp), by simp, fun k hk => absurd hk (by simp)⟩
  · simp [Value.cells] at hcs
    obtain ⟨rfl, rfl, rfl⟩ := hcs
    have hlm : len ≤ m := by rw [hmm]; split <;> omega
    have hC : Tryd.prog.cellsOf 44 = 2 := by kernel_rfl
    have hone := hone_of (P := Tryd.prog) (fs := #[{ name := "Takes", type := 4, offset := 0, embedded := false, tag := "", pkgPath := "", byteOffset := 0 },
        { name := "K", type := 3, offset := 1, embedded := false, tag := "", pkgPath := "", byteOffset := 8 }]) (by kernel_rfl)
    have each : ∀ i, i < len → ∃ s : Sx, (w.cell? ((a.add (i * 2)).add 0) = some (.bool s.tk) ∧ w.cell? ((a.add (i * 2)).add 1) = some (.int .i64 s.kk)) ∧ -9223372036854775808 ≤ s.kk ∧ s.kk ≤ 9223372036854775807 := by
      intro i hi
      obtain ⟨cs', hc, ht⟩ := hx i (by omega)
      rw [hC] at hc
      obtain ⟨ys, n', _, _, hlen, hyl, hfl⟩ := DataW.trod_struct Tryd.underlying44 ht
      rw [hC] at hlen
      obtain ⟨_, _, hat⟩ := World.cells?_some hc
      match cs', hlen with
      | [v0, v1], _ =>
        match ys, hyl with
        | [y0, y1], _ =>
          have g0 := hfl 0 _ rfl
          have g1 := hfl 1 _ rfl
          rw [(hone 0 _ rfl).2] at g0
          rw [(hone 1 _ rfl).2] at g1
          simp only [List.getElem?_cons_zero, List.getElem?_cons_succ] at g0 g1
          obtain ⟨n0, e0, _⟩ := DataW.trod_bool Tryd.underlying4 g0
          obtain ⟨n1, e1, _, w1⟩ := DataW.trod_int Tryd.underlying3 g1
          injection e0 with e0
          injection e1 with e1
          subst e0 e1
          have b1 := bounds_i64 w1
          exact ⟨⟨n0, n1⟩, ⟨hat 0 (by omega), hat 1 (by omega)⟩, b1.1, b1.2⟩
    obtain ⟨f, hfs⟩ := choose_lt each
    refine ⟨some a, cap, (List.range len).map f, by simp, fun h0 => ?_, by simp; unfold maxLen at hm; omega, fun k hk => ?_⟩
    · have hlen : 0 < len := by simpa using h0
      obtain ⟨b, o, sp⟩ := a
      have h00 := (hfs 0 hlen).1.1
      have hsp : sp = none := by
        cases sp with
        | none => rfl
        | some q =>
          have e : (((⟨b, o, some q⟩ : Addr).add (0 * 2)).add 0) = ⟨b, o, some q⟩ := by simp [Addr.add]
          rw [e] at h00
          unfold World.cell? at h00
          split at h00
          · simp at h00
          · cases h00
      subst hsp
      have ad : ∀ k j, (((⟨b, o, none⟩ : Addr).add (k * 2)).add j) = ⟨b, o + k * 2 + j, none⟩ := fun k j => by
        unfold Addr.add
        by_cases hk : k * 2 = 0 <;> by_cases hj : j = 0 <;> simp only [hk, hj, if_true, if_false, Nat.add_zero]
      refine ⟨b, o, rfl, ?_, fun k hk => ?_⟩
      · have := block_lt_of_cell h00
        rw [ad] at this
        exact this
      · have hk' : k < len := by simpa using hk
        rw [getD_map_range f sx0 len k hk']
        obtain ⟨⟨x0, x1⟩, _⟩ := hfs k hk'
        rw [ad] at x0 x1
        exact ⟨x0, x1⟩
    · have hk' : k < len := by simpa using hk
      rw [getD_map_range f sx0 len k hk']
      exact (hfs k hk').2
end
end Go.Proofs.YtaafchcpnceddaaDoor
