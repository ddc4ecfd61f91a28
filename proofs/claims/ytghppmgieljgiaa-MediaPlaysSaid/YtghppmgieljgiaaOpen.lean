/- Arguments opened: rows of bools, rows of steps. -/
import Derived.Test.YtghppmgieljgiaaKit
import Derived.Test.YtghppmgieljgiaaStp
import Derived.Deep.Slices
import Derived.Deep.Fields
import Derived.ChangeSame
namespace Go.Proofs.Ytghppmgieljgiaa
open Go.ChangeShapes Go.WideShapes Go.RowKit Go.Deep
section
variable {H : Type} {enc : TypeId × Value → H} {P : Program} {w : World}
/-- A row of bools. -/
theorem cel_bools {base fuel : Nat} {spare : Nat → Bool} {held : Bool} {t e : TypeId} {cs : List Value} {x : DataW H × List MemPlace} (ht : P.underlying t = some (.slice e)) (he : P.underlying e = some .bool) (hc : P.cellsOf e = 1)
    (h : DataW.trod enc P w base spare held fuel t cs = some x) : ∃ A c l, cs = [.slice A (List.length l) c] ∧ Cel w A (bv l) ∧ l.length ≤ 9223372036854775807 := by
  rcases open_slice1 ht hc h with ⟨rfl, _⟩ | ⟨a, len, cap, m, n, V, D, Pl, rfl, _, hl, hm, hmm, _, hV⟩
  · exact ⟨none, 0, [], rfl, Cel.nil _ _, by simp⟩
  · have hlm : len ≤ m := by rw [hmm]; split <;> omega
    refine ⟨some a, cap, (List.range len).map (fun i => match V i with | .bool b => b | _ => false), by simp, fun h0 => ?_, by simp; unfold maxLen at hm; omega⟩
    have hlen : 0 < len := by rw [bv_length] at h0; simpa using h0
    refine ⟨a, rfl, ?_, fun j u hu => ?_⟩
    · have := block_lt_of_cell (hV 0 (by omega)).1
      rwa [add_block] at this
    · have hj : j < len := by have := (List.getElem?_eq_some_iff.1 hu).1; rw [bv_length] at this; simpa using this
      obtain ⟨h1, h2⟩ := hV j (by omega)
      obtain ⟨b, hb, _⟩ := DataW.trod_bool he h2
      rw [h1]
      rw [bv_get _ j (by simpa using hj)] at hu
      injection hb with hb
      rw [← hu, hb]
      simp [List.getD_eq_getElem?_getD, hj, hb]
theorem open_bools {base : Nat} {t e : TypeId} {v : Value} {d : DataW H} {ps : List MemPlace} (ht : P.underlying t = some (.slice e)) (he : P.underlying e = some .bool) (hc : P.cellsOf e = 1)
    (hok : Value.okWide P w .any base t v) (h : DataW.Trod enc P w 0 (fun _ => true) true t v d ps) : ∃ A c l, v = .slice A (List.length l) c ∧ Cel w A (bv l) ∧ l.length ≤ 9223372036854775807 := by
  obtain ⟨a0, len, cap, rfl⟩ := okWide_slice ht hok
  obtain ⟨fuel, hf⟩ := h
  obtain ⟨A, c, l, h1, h2, h3⟩ := cel_bools ht he hc hf
  simp [Value.cells] at h1
  obtain ⟨rfl, rfl, rfl⟩ := h1
  exact ⟨a0, cap, l, rfl, h2, h3⟩
end
theorem getD_map_range {α : Type} (f : Nat → α) (d : α) (n k : Nat) (h : k < n) : ((List.range n).map f).getD k d = f k := by
  simp [List.getD_eq_getElem?_getD, h]
instance : Inhabited St := ⟨s0⟩
section
variable {H : Type} {enc : TypeId × Value → H} {w : World}
/-- A row of steps. -/
theorem open_steps {base : Nat} {v : Value} {d : DataW H} {ps : List MemPlace} (hok : Value.okWide Try.prog w .any base 22 v) (h : DataW.Trod enc Try.prog w 0 (fun _ => true) true 22 v d ps) :
    ∃ A c l, v = .slice A (List.length l) c ∧ SRow w A l ∧ l.length ≤ 9223372036854775807 ∧ ∀ k, k < l.length → StOK w (l.getD k s0) := by
  obtain ⟨a0, len, cap, rfl⟩ := okWide_slice Try.underlying22 hok
  obtain ⟨fuel, hf⟩ := h
  rcases open_slice Try.underlying22 hf with ⟨hcs, _⟩ | ⟨a, len', cap', m, n, D, Pl, hcs, _, hl, hm, hmm, _, hx⟩
  · simp [Value.cells] at hcs
    obtain ⟨rfl, rfl, rfl⟩ := hcs
    exact ⟨none, 0, [], rfl, fun h => absurd h (by simp), by simp, fun k hk => absurd hk (by simp)⟩
  · simp [Value.cells] at hcs
    obtain ⟨rfl, rfl, rfl⟩ := hcs
    have hlm : len ≤ m := by rw [hmm]; split <;> omega
    have hC : Try.prog.cellsOf 35 = 4 := by kernel_rfl
    have hone := hone_of (P := Try.prog) (fs := #[{ name := "Do", type := 3, offset := 0, embedded := false, tag := "", pkgPath := "", byteOffset := 0 },
        { name := "At", type := 3, offset := 1, embedded := false, tag := "", pkgPath := "", byteOffset := 8 },
        { name := "W", type := 32, offset := 2, embedded := false, tag := "", pkgPath := "", byteOffset := 16 },
        { name := "Keep", type := 33, offset := 3, embedded := false, tag := "", pkgPath := "", byteOffset := 24 }]) (by kernel_rfl)
    have each : ∀ i, i < len → ∃ s : St, (w.cell? ((a.add (i * 4)).add 0) = some (.int .i64 s.act) ∧ w.cell? ((a.add (i * 4)).add 1) = some (.int .i64 s.pos) ∧ w.cell? ((a.add (i * 4)).add 2) = some (.int .u64 (s.word : Nat)) ∧
        w.cell? ((a.add (i * 4)).add 3) = some (.slice s.ka s.keep.length s.kc)) ∧ StOK w s := by
      intro i hi
      obtain ⟨cs', hc, ht⟩ := hx i (by omega)
      rw [hC] at hc
      obtain ⟨ys, n', _, _, hlen, hyl, hfl⟩ := DataW.trod_struct Try.underlying35 ht
      rw [hC] at hlen
      obtain ⟨_, _, hat⟩ := World.cells?_some hc
      match cs', hlen with
      | [v0, v1, v2, v3], _ =>
        match ys, hyl with
        | [y0, y1, y2, y3], _ =>
          have g0 := hfl 0 _ rfl
          have g1 := hfl 1 _ rfl
          have g2 := hfl 2 _ rfl
          have g3 := hfl 3 _ rfl
          rw [(hone 0 _ rfl).2] at g0
          rw [(hone 1 _ rfl).2] at g1
          rw [(hone 2 _ rfl).2] at g2
          rw [(hone 3 _ rfl).2] at g3
          simp only [List.getElem?_cons_zero, List.getElem?_cons_succ] at g0 g1 g2 g3
          obtain ⟨n0, e0, _, _⟩ := DataW.trod_int Try.underlying3 g0
          obtain ⟨n1, e1, _, _⟩ := DataW.trod_int Try.underlying3 g1
          obtain ⟨n2, e2, _, w2⟩ := DataW.trod_int Try.underlying32 g2
          obtain ⟨A, c, l, e3, k1, k2⟩ := cel_bools Try.underlying33 Try.underlying4 (by kernel_rfl) g3
          injection e0 with e0
          injection e1 with e1
          injection e2 with e2
          injection e3 with e3
          subst e0 e1 e2 e3
          have b2 := bounds_u64 w2
          exact ⟨⟨n0, n1, n2.toNat, A, l, c⟩, ⟨hat 0 (by omega), hat 1 (by omega), (hat 2 (by omega)).trans (by simp; omega), hat 3 (by omega)⟩, k1, k2⟩
    obtain ⟨f, hfs⟩ := choose_lt each
    refine ⟨some a, cap, (List.range len).map f, by simp, fun h0 => ?_, by simp; unfold maxLen at hm; omega, fun k hk => ?_⟩
    · have hlen : 0 < len := by simpa using h0
      obtain ⟨b, o, sp⟩ := a
      have h00 := (hfs 0 hlen).1.1
      have hsp : sp = none := by
        cases sp with
        | none => rfl
        | some q =>
          have e : (((⟨b, o, some q⟩ : Addr).add (0 * 4)).add 0) = ⟨b, o, some q⟩ := by simp [Addr.add]
          rw [e] at h00
          unfold World.cell? at h00
          split at h00
          · simp at h00
          · cases h00
      subst hsp
      have ad : ∀ k j, (((⟨b, o, none⟩ : Addr).add (k * 4)).add j) = ⟨b, o + k * 4 + j, none⟩ := fun k j => by
        unfold Addr.add
        by_cases hk : k * 4 = 0 <;> by_cases hj : j = 0 <;> simp only [hk, hj, if_true, if_false, Nat.add_zero]
      refine ⟨b, o, rfl, ?_, fun k hk => ?_⟩
      · have := block_lt_of_cell h00
        rw [ad] at this
        exact this
      · have hk' : k < len := by simpa using hk
        rw [getD_map_range f s0 len k hk']
        obtain ⟨⟨x0, x1, x2, x3⟩, _⟩ := hfs k hk'
        rw [ad] at x0 x1 x2 x3
        exact ⟨x0, x1, x2, x3⟩
    · have hk' : k < len := by simpa using hk
      rw [getD_map_range f s0 len k hk']
      exact (hfs k hk').2
end
end Go.Proofs.Ytghppmgieljgiaa
