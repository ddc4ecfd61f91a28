/- A script of steps as an argument. -/
import Derived.Test.YthlodfahajaneaaKr
import Derived.Test.YthlodfahajaneaaKit
import Derived.Test.YthlodfahajaneaaRows
import Derived.ProofKit
import Derived.Deep.Slices
import Derived.Deep.Fields
import Derived.ChangeSame
import Derived.OpenShut
set_option linter.unusedSimpArgs false
set_option linter.unusedVariables false
namespace Go.Proofs.Ythlodfahajaneaa
open Go Go.ChangeShapes Go.WideShapes Go.ChangeAt Go.WideMaps Go.WideElems Go.RowKit Go.Deep
instance : Inhabited St := ⟨s0⟩
theorem own : ownKnob Try.prog.godebug = none := by kernel_rfl
theorem laidOut : laidOutB Try.prog = true := by kernel_rfl
theorem getD_map_range {α : Type} (f : Nat → α) (d : α) (n k : Nat) (h : k < n) : ((List.range n).map f).getD k d = f k := by
  simp [List.getD_eq_getElem?_getD, h]
theorem addr_sp {w : World} {a : Addr} {v : Value} (h : w.cell? a = some v) : a.spot = none := by
  obtain ⟨b, o, sp⟩ := a
  cases sp with
  | none => rfl
  | some q =>
    unfold World.cell? at h
    split at h
    · simp at h
    · cases h
section
variable {H : Type} {enc : TypeId × Value → H} {w : World}
set_option maxRecDepth 100000 in
theorem open_script {base : Nat} {v : Value} {d : DataW H} {ps : List MemPlace} (hok : Value.okWide Try.prog w .any base 22 v) (h : DataW.Trod enc Try.prog w 0 (fun _ => true) true 22 v d ps) :
    ∃ A c l, v = .slice A (List.length l) c ∧ SRow w A l ∧ l.length ≤ 9223372036854775807 := by
  obtain ⟨a0, len, cap, rfl⟩ := okWide_slice Try.underlying22 hok
  obtain ⟨fuel, hf⟩ := h
  rcases open_slice Try.underlying22 hf with ⟨hcs, _⟩ | ⟨a, len', cap', m, n, D, Pl, hcs, _, hl, hm, hmm, _, hx⟩
  · simp [Value.cells] at hcs
    obtain ⟨rfl, rfl, rfl⟩ := hcs
    exact ⟨none, 0, [], rfl, fun h => absurd h (by simp), by simp⟩
  · simp [Value.cells] at hcs
    obtain ⟨rfl, rfl, rfl⟩ := hcs
    have hlm : len ≤ m := by rw [hmm]; split <;> omega
    have hC : Try.prog.cellsOf 31 = 3 := by kernel_rfl
    have hone := hone_of (P := Try.prog) (fs := #[{ name := "Free", type := 4, offset := 0, embedded := false, tag := "", pkgPath := "", byteOffset := 0 },
        { name := "P", type := 3, offset := 1, embedded := false, tag := "", pkgPath := "", byteOffset := 8 },
        { name := "Id", type := 3, offset := 2, embedded := false, tag := "", pkgPath := "", byteOffset := 16 }]) (by kernel_rfl)
    have each : ∀ i, i < len → ∃ s : St, w.cell? ((a.add (i * 3)).add 0) = some (.bool s.free) ∧ w.cell? ((a.add (i * 3)).add 1) = some (.int .i64 s.p) ∧ w.cell? ((a.add (i * 3)).add 2) = some (.int .i64 s.id) := by
      intro i hi
      obtain ⟨cs', hc, ht⟩ := hx i (by omega)
      rw [hC] at hc
      obtain ⟨ys, n', _, _, hlen, hyl, hfl⟩ := DataW.trod_struct Try.underlying31 ht
      rw [hC] at hlen
      obtain ⟨_, _, hat⟩ := World.cells?_some hc
      match cs', hlen with
      | [v0, v1, v2], _ =>
        match ys, hyl with
        | [y0, y1, y2], _ =>
          have g0 := hfl 0 _ rfl
          have g1 := hfl 1 _ rfl
          have g2 := hfl 2 _ rfl
          rw [(hone 0 _ rfl).2] at g0
          rw [(hone 1 _ rfl).2] at g1
          rw [(hone 2 _ rfl).2] at g2
          simp only [List.getElem?_cons_zero, List.getElem?_cons_succ] at g0 g1 g2
          obtain ⟨n0, e0, _⟩ := DataW.trod_bool Try.underlying4 g0
          obtain ⟨n1, e1, _, _⟩ := DataW.trod_int Try.underlying3 g1
          obtain ⟨n2, e2, _, _⟩ := DataW.trod_int Try.underlying3 g2
          injection e0 with e0
          injection e1 with e1
          injection e2 with e2
          subst e0 e1 e2
          exact ⟨⟨n0, n1, n2⟩, hat 0 (by omega), hat 1 (by omega), hat 2 (by omega)⟩
    obtain ⟨f, hfs⟩ := choose_lt each
    refine ⟨some a, cap, (List.range len).map f, by simp, fun h0 => ?_, by simp; unfold maxLen at hm; omega⟩
    have hlen : 0 < len := by simpa using h0
    have h00 := (hfs 0 hlen).1
    obtain ⟨b, o, sp⟩ := a
    have e00 : (((⟨b, o, sp⟩ : Addr).add (0 * 3)).add 0) = ⟨b, o, sp⟩ := by simp [Addr.add]
    have hsp := addr_sp h00
    rw [e00] at hsp
    simp only at hsp
    subst hsp
    have ad : ∀ k j, (((⟨b, o, none⟩ : Addr).add (k * 3)).add j) = ⟨b, o + k * 3 + j, none⟩ := fun k j => by
      unfold Addr.add
      by_cases hk : k * 3 = 0 <;> by_cases hj : j = 0 <;> simp only [hk, hj, if_true, if_false, Nat.add_zero]
    refine ⟨b, o, rfl, ?_, fun k hk => ?_⟩
    · have := World.block_lt_of_cell? w _ h00
      rw [ad] at this
      exact this
    · have hk' : k < len := by simpa using hk
      rw [getD_map_range f s0 len k hk']
      obtain ⟨x0, x1, x2⟩ := hfs k hk'
      rw [ad] at x0 x1 x2
      exact ⟨x0, x1, x2⟩
end
end Go.Proofs.Ythlodfahajaneaa
