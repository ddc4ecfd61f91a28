/- A row of keys and values as an argument. -/
import Derived.Test.YthfafejjjmdpbaaRows
import Derived.Test.YthfafejjjmdpbaaKit
import Derived.Test.YthfafejjjmdpbaaAt1
import Derived.ProofKit
import Derived.Deep.Slices
import Derived.Deep.Fields
import Derived.ChangeSame
import Derived.Lib.SmallJoins
set_option linter.unusedSimpArgs false
set_option linter.unusedVariables false
namespace Go.Proofs.Ythfafejjjmdpbaa
open Go.Joins Go.ChangeShapes Go.WideShapes Go.ChangeAt Go.WideMaps Go.WideElems Go.RowKit Go.Deep
theorem own : ownKnob Try.prog.godebug = none := by kernel_rfl
theorem laidOut : laidOutB Try.prog = true := by kernel_rfl
theorem xt_map_range (f : Nat → Xt) (n k : Nat) (h : k < n) : ((List.range n).map f)[k]? = some (f k) := by
  simp [h]
instance inhXt : Inhabited Xt := ⟨⟨⟨#[]⟩, ⟨#[]⟩⟩⟩
section
variable {H : Type} {enc : TypeId × Value → H} {w : World}
set_option maxRecDepth 100000 in
/-- A row of keys and values. -/
theorem open_xts {fuel : Nat} {c : Value} {x : DataW H × List MemPlace} (hf : DataW.trod enc Try.prog w 0 (fun _ => true) true fuel 22 [c] = some x) :
    ∃ A cap L, c = .slice A (List.length L) cap ∧ Cel w A (xv L) ∧ L.length ≤ 9223372036854775807 := by
  rcases open_slice Try.underlying22 hf with ⟨hcs, _⟩ | ⟨a, len, cap, m, n, D, Pl, hcs, _, hl, hm, hmm, _, hx⟩
  · injection hcs with hcs
    subst hcs
    exact ⟨none, 0, [], rfl, Cel.nil _ _, by simp⟩
  · injection hcs with hcs
    subst hcs
    have hlm : len ≤ m := by rw [hmm]; split <;> omega
    have hC : Try.prog.cellsOf 42 = 2 := by kernel_rfl
    have hone := hone_of (P := Try.prog) (fs := #[{ name := "Key", type := 9, offset := 0, embedded := false, tag := "", pkgPath := "", byteOffset := 0 },
        { name := "Val", type := 9, offset := 1, embedded := false, tag := "", pkgPath := "", byteOffset := 16 }]) (by kernel_rfl)
    have each : ∀ i, i < len → ∃ s : Xt, w.cell? ((a.add (i * 2)).add 0) = some (.string s.key) ∧ w.cell? ((a.add (i * 2)).add 1) = some (.string s.val) := by
      intro i hi
      obtain ⟨cs', hc, ht⟩ := hx i (by omega)
      rw [hC] at hc
      obtain ⟨ys, n', _, _, hlen, hyl, hfl⟩ := DataW.trod_struct Try.underlying42 ht
      rw [hC] at hlen
      obtain ⟨_, _, hat⟩ := World.cells?_some hc
      match cs', hlen with
      | [v0, v1], _ =>
        match ys, hyl with
        | [y0, y1], _ =>
          have g0 := hfl 0 _ rfl
          have g1 := hfl 1 _ rfl
          rw [(hone 0 _ rfl).2] at g0
          rw [(hone 1 _ rfl).2] at g1
          simp only [List.getElem?_cons_zero, List.getElem?_cons_succ] at g0 g1
          obtain ⟨n0, e0, _, _⟩ := DataW.trod_string Try.underlying9 g0
          obtain ⟨n1, e1, _, _⟩ := DataW.trod_string Try.underlying9 g1
          injection e0 with e0
          injection e1 with e1
          subst e0 e1
          exact ⟨⟨n0, n1⟩, (hat 0 (by omega)).trans rfl, (hat 1 (by omega)).trans rfl⟩
    obtain ⟨f, hfs⟩ := choose_lt each
    refine ⟨some a, cap, (List.range len).map f, by simp, fun h0 => ?_, by simp; unfold maxLen at hm; omega⟩
    · have hlen : 0 < len := by rw [xv_length] at h0; simpa using h0
      obtain ⟨b, o, sp⟩ := a
      have h00 := (hfs 0 hlen).1
      have hsp : sp = none := by
        cases sp with
        | none => rfl
        | some q =>
          have e : (((⟨b, o, some q⟩ : Addr).add (0 * 2)).add 0) = ⟨b, o, some q⟩ := by simp [Addr.add]
          rw [e] at h00
          unfold World.cell? at h00
          split at h00
          · simp at h00
          · cases h00
      subst hsp
      have ad : ∀ k j, (((⟨b, o, none⟩ : Addr).add (k * 2)).add j) = ⟨b, o + k * 2 + j, none⟩ := fun k j => by
        unfold Addr.add
        by_cases hk : k * 2 = 0 <;> by_cases hj : j = 0 <;> simp only [hk, hj, if_true, if_false, Nat.add_zero]
      have ad1 : ∀ j, ((⟨b, o, none⟩ : Addr).add j) = ⟨b, o + j, none⟩ := fun j => by
        unfold Addr.add
        by_cases hj : j = 0 <;> simp only [hj, if_true, if_false, Nat.add_zero]
      refine ⟨_, rfl, ?_, fun j u hu => ?_⟩
      · have := block_lt_of_cell h00
        rw [ad] at this
        exact this
      · have hj : j < len * 2 := by
          have := (List.getElem?_eq_some_iff.1 hu).1
          rw [xv_length] at this
          simpa using this
        obtain ⟨k, hk, e⟩ : ∃ k, k < len ∧ (j = k * 2 ∨ j = k * 2 + 1) := ⟨j / 2, by omega, by omega⟩
        have hp := xt_map_range f len k hk
        obtain ⟨n0, n1⟩ := xv_get hp
        obtain ⟨c0, c1⟩ := hfs k hk
        rw [ad] at c0 c1
        rw [ad1]
        rcases e with rfl | rfl
        · rw [← hu, n0, ← c0, Nat.add_zero]
        · rw [← hu, n1, ← c1, Nat.add_assoc]
theorem open_xarg {base : Nat} {v : Value} {d : DataW H} {ps : List MemPlace} (hok : Value.okWide Try.prog w .any base 22 v) (h : DataW.Trod enc Try.prog w 0 (fun _ => true) true 22 v d ps) :
    ∃ A c L, v = .slice A (List.length L) c ∧ Cel w A (xv L) ∧ L.length ≤ 9223372036854775807 := by
  obtain ⟨a0, len, cap, rfl⟩ := okWide_slice Try.underlying22 hok
  obtain ⟨fuel, hf⟩ := h
  exact open_xts hf
end
end Go.Proofs.Ythfafejjjmdpbaa
