/- Attributes as an argument. -/
import Derived.Test.YtgdiiicaljidpaaNuT
import Derived.Test.YtgdiiicaljidpaaRows
import Derived.Test.YtgdiiicaljidpaaKit
import Derived.Test.YtgdiiicaljidpaaAcT
import Derived.Test.YtgdiiicaljidpaaLwT
import Derived.ProofKit
import Derived.Deep.Slices
import Derived.Deep.Fields
import Derived.ChangeSame
import Derived.Lib.SmallJoins
set_option linter.unusedSimpArgs false
set_option linter.unusedVariables false
set_option linter.unusedSimpArgs false
set_option linter.unusedVariables false
namespace Go.Proofs.Ytgdiiicaljidpaa
open Go.Joins Go.ChangeShapes Go.WideShapes Go.ChangeAt Go.WideMaps Go.WideElems Go.RowKit Go.Deep
theorem nm_map_range (f : Nat → Nm) (n k : Nat) (h : k < n) : ((List.range n).map f)[k]? = some (f k) := by
  simp [h]
theorem xt_map_range (f : Nat → Xt) (n k : Nat) (h : k < n) : ((List.range n).map f)[k]? = some (f k) := by
  simp [h]
instance inhNm : Inhabited Nm := ⟨⟨0, 0⟩⟩
instance inhXt : Inhabited Xt := ⟨⟨⟨#[]⟩, ⟨#[]⟩⟩⟩
section
variable {H : Type} {enc : TypeId × Value → H} {w : World}
set_option maxRecDepth 100000 in
/-- A row of named ones. -/
theorem open_named {fuel : Nat} {c : Value} {x : DataW H × List MemPlace} (hf : DataW.trod enc Try.prog w 0 (fun _ => true) true fuel 26 [c] = some x) :
    ∃ A cap L, c = .slice A (List.length L) cap ∧ Cel w A (nv L) ∧ L.length ≤ 9223372036854775807 ∧ ∀ (k : Nat) p, L[k]? = some p → p.id < 65536 ∧ p.pm < 256 := by
  rcases open_slice Try.underlying26 hf with ⟨hcs, _⟩ | ⟨a, len, cap, m, n, D, Pl, hcs, _, hl, hm, hmm, _, hx⟩
  · injection hcs with hcs
    subst hcs
    exact ⟨none, 0, [], rfl, Cel.nil _ _, by simp, fun k p h => by simp at h⟩
  · injection hcs with hcs
    subst hcs
    have hlm : len ≤ m := by rw [hmm]; split <;> omega
    have hC : Try.prog.cellsOf 53 = 2 := by kernel_rfl
    have hone := hone_of (P := Try.prog) (fs := #[{ name := "Id", type := 22, offset := 0, embedded := false, tag := "", pkgPath := "", byteOffset := 0 },
        { name := "Perm", type := 5, offset := 1, embedded := false, tag := "", pkgPath := "", byteOffset := 2 }]) (by kernel_rfl)
    have each : ∀ i, i < len → ∃ s : Nm, (w.cell? ((a.add (i * 2)).add 0) = some (.int .u16 (s.id : Nat)) ∧ w.cell? ((a.add (i * 2)).add 1) = some (.int .u8 (s.pm : Nat))) ∧ s.id < 65536 ∧ s.pm < 256 := by
      intro i hi
      obtain ⟨cs', hc, ht⟩ := hx i (by omega)
      rw [hC] at hc
      obtain ⟨ys, n', _, _, hlen, hyl, hfl⟩ := DataW.trod_struct Try.underlying53 ht
      rw [hC] at hlen
      obtain ⟨_, _, hat⟩ := World.cells?_some hc
      match cs', hlen with
      | [v0, v1], _ =>
        match ys, hyl with
        | [y0, y1], _ =>
          have g0 := hfl 0 _ rfl
          have g1 := hfl 1 _ rfl
          rw [(hone 0 _ rfl).2] at g0
          rw [(hone 1 _ rfl).2] at g1
          simp only [List.getElem?_cons_zero, List.getElem?_cons_succ] at g0 g1
          obtain ⟨n0, e0, _, w0⟩ := DataW.trod_int Try.underlying22 g0
          obtain ⟨n1, e1, _, w1⟩ := DataW.trod_int Try.underlying5 g1
          injection e0 with e0
          injection e1 with e1
          subst e0 e1
          have b0 := bounds_u16 w0
          have b1 := bounds_u8 w1
          exact ⟨⟨n0.toNat, n1.toNat⟩, ⟨(hat 0 (by omega)).trans (by simp; omega), (hat 1 (by omega)).trans (by simp; omega)⟩, by show n0.toNat < 65536; omega, by show n1.toNat < 256; omega⟩
    obtain ⟨f, hfs⟩ := choose_lt each
    refine ⟨some a, cap, (List.range len).map f, by simp, fun h0 => ?_, by simp; unfold maxLen at hm; omega, fun k p hk => ?_⟩
    · have hlen : 0 < len := by rw [nv_length] at h0; simpa using h0
      obtain ⟨b, o, sp⟩ := a
      have h00 := (hfs 0 hlen).1.1
      have hsp : sp = none := by
        cases sp with
        | none => rfl
        | some q =>
          have e : (((⟨b, o, some q⟩ : Addr).add (0 * 2)).add 0) = ⟨b, o, some q⟩ := by simp [Addr.add]
          rw [e] at h00
          unfold World.cell? at h00
          split at h00
          · simp at h00
          · cases h00
      subst hsp
      have ad : ∀ k j, (((⟨b, o, none⟩ : Addr).add (k * 2)).add j) = ⟨b, o + k * 2 + j, none⟩ := fun k j => by
        unfold Addr.add
        by_cases hk : k * 2 = 0 <;> by_cases hj : j = 0 <;> simp only [hk, hj, if_true, if_false, Nat.add_zero]
      have ad1 : ∀ j, ((⟨b, o, none⟩ : Addr).add j) = ⟨b, o + j, none⟩ := fun j => by
        unfold Addr.add
        by_cases hj : j = 0 <;> simp only [hj, if_true, if_false, Nat.add_zero]
      refine ⟨_, rfl, ?_, fun j u hu => ?_⟩
      · have := block_lt_of_cell h00
        rw [ad] at this
        exact this
      · have hj : j < len * 2 := by
          have := (List.getElem?_eq_some_iff.1 hu).1
          rw [nv_length] at this
          simpa using this
        obtain ⟨k, hk, e⟩ : ∃ k, k < len ∧ (j = k * 2 ∨ j = k * 2 + 1) := ⟨j / 2, by omega, by omega⟩
        have hp := nm_map_range f len k hk
        obtain ⟨n0, n1⟩ := nv_get hp
        obtain ⟨⟨c0, c1⟩, _⟩ := hfs k hk
        rw [ad] at c0 c1
        rw [ad1]
        rcases e with rfl | rfl
        · rw [← hu, n0, ← c0, Nat.add_zero]
        · rw [← hu, n1, ← c1, Nat.add_assoc]
    · have hk' : k < len := by
        have := (List.getElem?_eq_some_iff.1 hk).1
        simpa using this
      rw [nm_map_range f len k hk'] at hk
      injection hk with hk
      rw [← hk]
      exact (hfs k hk').2
set_option maxRecDepth 100000 in
/-- A row of keys and values. -/
theorem open_xts {fuel : Nat} {c : Value} {x : DataW H × List MemPlace} (hf : DataW.trod enc Try.prog w 0 (fun _ => true) true fuel 29 [c] = some x) :
    ∃ A cap L, c = .slice A (List.length L) cap ∧ Cel w A (xv L) ∧ L.length ≤ 9223372036854775807 := by
  rcases open_slice Try.underlying29 hf with ⟨hcs, _⟩ | ⟨a, len, cap, m, n, D, Pl, hcs, _, hl, hm, hmm, _, hx⟩
  · injection hcs with hcs
    subst hcs
    exact ⟨none, 0, [], rfl, Cel.nil _ _, by simp⟩
  · injection hcs with hcs
    subst hcs
    have hlm : len ≤ m := by rw [hmm]; split <;> omega
    have hC : Try.prog.cellsOf 63 = 2 := by kernel_rfl
    have hone := hone_of (P := Try.prog) (fs := #[{ name := "Key", type := 9, offset := 0, embedded := false, tag := "", pkgPath := "", byteOffset := 0 },
        { name := "Val", type := 9, offset := 1, embedded := false, tag := "", pkgPath := "", byteOffset := 16 }]) (by kernel_rfl)
    have each : ∀ i, i < len → ∃ s : Xt, w.cell? ((a.add (i * 2)).add 0) = some (.string s.key) ∧ w.cell? ((a.add (i * 2)).add 1) = some (.string s.val) := by
      intro i hi
      obtain ⟨cs', hc, ht⟩ := hx i (by omega)
      rw [hC] at hc
      obtain ⟨ys, n', _, _, hlen, hyl, hfl⟩ := DataW.trod_struct Try.underlying63 ht
      rw [hC] at hlen
      obtain ⟨_, _, hat⟩ := World.cells?_some hc
      match cs', hlen with
      | [v0, v1], _ =>
        match ys, hyl with
        | [y0, y1], _ =>
          have g0 := hfl 0 _ rfl
          have g1 := hfl 1 _ rfl
          rw [(hone 0 _ rfl).2] at g0
          rw [(hone 1 _ rfl).2] at g1
          simp only [List.getElem?_cons_zero, List.getElem?_cons_succ] at g0 g1
          obtain ⟨n0, e0, _, _⟩ := DataW.trod_string Try.underlying9 g0
          obtain ⟨n1, e1, _, _⟩ := DataW.trod_string Try.underlying9 g1
          injection e0 with e0
          injection e1 with e1
          subst e0 e1
          exact ⟨⟨n0, n1⟩, (hat 0 (by omega)).trans rfl, (hat 1 (by omega)).trans rfl⟩
    obtain ⟨f, hfs⟩ := choose_lt each
    refine ⟨some a, cap, (List.range len).map f, by simp, fun h0 => ?_, by simp; unfold maxLen at hm; omega⟩
    · have hlen : 0 < len := by rw [xv_length] at h0; simpa using h0
      obtain ⟨b, o, sp⟩ := a
      have h00 := (hfs 0 hlen).1
      have hsp : sp = none := by
        cases sp with
        | none => rfl
        | some q =>
          have e : (((⟨b, o, some q⟩ : Addr).add (0 * 2)).add 0) = ⟨b, o, some q⟩ := by simp [Addr.add]
          rw [e] at h00
          unfold World.cell? at h00
          split at h00
          · simp at h00
          · cases h00
      subst hsp
      have ad : ∀ k j, (((⟨b, o, none⟩ : Addr).add (k * 2)).add j) = ⟨b, o + k * 2 + j, none⟩ := fun k j => by
        unfold Addr.add
        by_cases hk : k * 2 = 0 <;> by_cases hj : j = 0 <;> simp only [hk, hj, if_true, if_false, Nat.add_zero]
      have ad1 : ∀ j, ((⟨b, o, none⟩ : Addr).add j) = ⟨b, o + j, none⟩ := fun j => by
        unfold Addr.add
        by_cases hj : j = 0 <;> simp only [hj, if_true, if_false, Nat.add_zero]
      refine ⟨_, rfl, ?_, fun j u hu => ?_⟩
      · have := block_lt_of_cell h00
        rw [ad] at this
        exact this
      · have hj : j < len * 2 := by
          have := (List.getElem?_eq_some_iff.1 hu).1
          rw [xv_length] at this
          simpa using this
        obtain ⟨k, hk, e⟩ : ∃ k, k < len ∧ (j = k * 2 ∨ j = k * 2 + 1) := ⟨j / 2, by omega, by omega⟩
        have hp := xt_map_range f len k hk
        obtain ⟨n0, n1⟩ := xv_get hp
        obtain ⟨c0, c1⟩ := hfs k hk
        rw [ad] at c0 c1
        rw [ad1]
        rcases e with rfl | rfl
        · rw [← hu, n0, ← c0, Nat.add_zero]
        · rw [← hu, n1, ← c1, Nat.add_assoc]
set_option maxRecDepth 100000 in
theorem open_aclc {fuel : Nat} {cs : List Value} {d : DataW H × List MemPlace} (hf : DataW.trod enc Try.prog w 0 (fun _ => true) true fuel 28 cs = some d) :
    ∃ (x : Ac) (p : Lie), cs = (x.c p).toList ∧ Lies w x p ∧ Bg x ∧ CNum x ∧ (x.ow < 256 ∧ x.gr < 256 ∧ x.ot < 256 ∧ x.ms < 256) := by
  obtain ⟨xs, n, _, _, hcl, hlen, hfx⟩ := DataW.trod_struct Try.underlying28 hf
  have hC : Try.prog.cellsOf 28 = 7 := by kernel_rfl
  rw [hC] at hcl
  obtain ⟨c0, c1, c2, c3, c4, c5, c6, rfl⟩ : ∃ c0 c1 c2 c3 c4 c5 c6, cs = [c0, c1, c2, c3, c4, c5, c6] := by
    match cs, hcl with
    | [c0, c1, c2, c3, c4, c5, c6], _ => exact ⟨c0, c1, c2, c3, c4, c5, c6, rfl⟩
  obtain ⟨y0, y1, y2, y3, y4, y5, y6, rfl⟩ : ∃ y0 y1 y2 y3 y4 y5 y6, xs = [y0, y1, y2, y3, y4, y5, y6] := by
    match xs, hlen with
    | [y0, y1, y2, y3, y4, y5, y6], _ => exact ⟨y0, y1, y2, y3, y4, y5, y6, rfl⟩
  have k0 : Try.prog.cellsOf 5 = 1 := by kernel_rfl
  have k1 : Try.prog.cellsOf 26 = 1 := by kernel_rfl
  have k2 : Try.prog.cellsOf 4 = 1 := by kernel_rfl
  have t0 : DataW.trod enc Try.prog w 0 (fun _ => true) true n 5 [c0] = some y0 := by simpa [Value.cells, k0, k1, k2] using hfx 0 _ rfl
  have t1 : DataW.trod enc Try.prog w 0 (fun _ => true) true n 5 [c1] = some y1 := by simpa [Value.cells, k0, k1, k2] using hfx 1 _ rfl
  have t2 : DataW.trod enc Try.prog w 0 (fun _ => true) true n 5 [c2] = some y2 := by simpa [Value.cells, k0, k1, k2] using hfx 2 _ rfl
  have t3 : DataW.trod enc Try.prog w 0 (fun _ => true) true n 26 [c3] = some y3 := by simpa [Value.cells, k0, k1, k2] using hfx 3 _ rfl
  have t4 : DataW.trod enc Try.prog w 0 (fun _ => true) true n 26 [c4] = some y4 := by simpa [Value.cells, k0, k1, k2] using hfx 4 _ rfl
  have t5 : DataW.trod enc Try.prog w 0 (fun _ => true) true n 4 [c5] = some y5 := by simpa [Value.cells, k0, k1, k2] using hfx 5 _ rfl
  have t6 : DataW.trod enc Try.prog w 0 (fun _ => true) true n 5 [c6] = some y6 := by simpa [Value.cells, k0, k1, k2] using hfx 6 _ rfl
  obtain ⟨n0, e0, _, w0⟩ := DataW.trod_int Try.underlying5 t0
  injection e0 with e0
  obtain ⟨n1, e1, _, w1⟩ := DataW.trod_int Try.underlying5 t1
  injection e1 with e1
  obtain ⟨n2, e2, _, w2⟩ := DataW.trod_int Try.underlying5 t2
  injection e2 with e2
  obtain ⟨A, ca, L, e3, l1, l2, l3⟩ := open_named t3
  obtain ⟨B, cb, M, e4, m1, m2, m3⟩ := open_named t4
  obtain ⟨hm, e5, _⟩ := DataW.trod_bool Try.underlying4 t5
  injection e5 with e5
  obtain ⟨n6, e6, _, w6⟩ := DataW.trod_int Try.underlying5 t6
  injection e6 with e6
  have b0 := bounds_u8 w0
  have b1 := bounds_u8 w1
  have b2 := bounds_u8 w2
  have b6 := bounds_u8 w6
  obtain ⟨z0, rfl⟩ := Int.eq_ofNat_of_zero_le b0.1
  obtain ⟨z1, rfl⟩ := Int.eq_ofNat_of_zero_le b1.1
  obtain ⟨z2, rfl⟩ := Int.eq_ofNat_of_zero_le b2.1
  obtain ⟨z6, rfl⟩ := Int.eq_ofNat_of_zero_le b6.1
  subst e0 e1 e2 e3 e4 e5 e6
  exact ⟨⟨z0, z1, z2, L, M, hm, z6⟩, ⟨A, ca, B, cb⟩, rfl, ⟨l1, m1⟩, ⟨l2, m2⟩, ⟨l3, m3⟩, ⟨by show z0 < 256; omega, by show z1 < 256; omega, by show z2 < 256; omega, by show z6 < 256; omega⟩⟩
set_option maxRecDepth 100000 in
set_option maxHeartbeats 2000000 in
theorem open_attr {base : Nat} {v : Value} {d : DataW H} {ps : List MemPlace} (hok : Value.okWide Try.prog w .any base 31 v) (h : DataW.Trod enc Try.prog w 0 (fun _ => true) true 31 v d ps) :
    ∃ (x : At) (p : ALie), v = x.v p ∧ ALies w x p ∧ ABg x ∧ ANum x ∧ Nb x.ac ∧ x.bi < 256 := by
  obtain ⟨cs, rfl, hsz⟩ := okWide_struct Try.underlying31 hok
  obtain ⟨fuel, hf⟩ := h
  obtain ⟨xs, n, _, _, _, hlen, hfx⟩ := DataW.trod_struct Try.underlying31 hf
  have hC : Try.prog.cellsOf 31 = 19 := by kernel_rfl
  rw [hC] at hsz
  obtain ⟨cs⟩ := cs
  obtain ⟨c0, c1, c2, c3, c4, c5, c6, c7, c8, c9, c10, c11, c12, c13, c14, c15, c16, c17, c18, rfl⟩ : ∃ c0 c1 c2 c3 c4 c5 c6 c7 c8 c9 c10 c11 c12 c13 c14 c15 c16 c17 c18, cs = [c0, c1, c2, c3, c4, c5, c6, c7, c8, c9, c10, c11, c12, c13, c14, c15, c16, c17, c18] := by
    match cs, hsz with
    | [c0, c1, c2, c3, c4, c5, c6, c7, c8, c9, c10, c11, c12, c13, c14, c15, c16, c17, c18], _ => exact ⟨c0, c1, c2, c3, c4, c5, c6, c7, c8, c9, c10, c11, c12, c13, c14, c15, c16, c17, c18, rfl⟩
  obtain ⟨y0, y1, y2, y3, y4, y5, y6, rfl⟩ : ∃ y0 y1 y2 y3 y4 y5 y6, xs = [y0, y1, y2, y3, y4, y5, y6] := by
    match xs, hlen with
    | [y0, y1, y2, y3, y4, y5, y6], _ => exact ⟨y0, y1, y2, y3, y4, y5, y6, rfl⟩
  have k0 : Try.prog.cellsOf 5 = 1 := by kernel_rfl
  have k1 : Try.prog.cellsOf 22 = 1 := by kernel_rfl
  have k2 : Try.prog.cellsOf 4 = 1 := by kernel_rfl
  have k3 : Try.prog.cellsOf 28 = 7 := by kernel_rfl
  have k4 : Try.prog.cellsOf 29 = 1 := by kernel_rfl
  have t0 : DataW.trod enc Try.prog w 0 (fun _ => true) true n 5 [c0] = some y0 := by simpa [Value.cells, k0, k1, k2, k3, k4] using hfx 0 _ rfl
  have t1 : DataW.trod enc Try.prog w 0 (fun _ => true) true n 22 [c1] = some y1 := by simpa [Value.cells, k0, k1, k2, k3, k4] using hfx 1 _ rfl
  have t2 : DataW.trod enc Try.prog w 0 (fun _ => true) true n 22 [c2] = some y2 := by simpa [Value.cells, k0, k1, k2, k3, k4] using hfx 2 _ rfl
  have t3 : DataW.trod enc Try.prog w 0 (fun _ => true) true n 28 [c3, c4, c5, c6, c7, c8, c9] = some y3 := by simpa [Value.cells, k0, k1, k2, k3, k4] using hfx 3 _ rfl
  have t4 : DataW.trod enc Try.prog w 0 (fun _ => true) true n 4 [c10] = some y4 := by simpa [Value.cells, k0, k1, k2, k3, k4] using hfx 4 _ rfl
  have t5 : DataW.trod enc Try.prog w 0 (fun _ => true) true n 28 [c11, c12, c13, c14, c15, c16, c17] = some y5 := by simpa [Value.cells, k0, k1, k2, k3, k4] using hfx 5 _ rfl
  have t6 : DataW.trod enc Try.prog w 0 (fun _ => true) true n 29 [c18] = some y6 := by simpa [Value.cells, k0, k1, k2, k3, k4] using hfx 6 _ rfl
  obtain ⟨n0, e0, _, w0⟩ := DataW.trod_int Try.underlying5 t0
  injection e0 with e0
  obtain ⟨n1, e1, _, w1⟩ := DataW.trod_int Try.underlying22 t1
  injection e1 with e1
  obtain ⟨n2, e2, _, w2⟩ := DataW.trod_int Try.underlying22 t2
  injection e2 with e2
  obtain ⟨xa, pa, ea, la, ba, na, ra⟩ := open_aclc t3
  obtain ⟨hd, e4, _⟩ := DataW.trod_bool Try.underlying4 t4
  injection e4 with e4
  obtain ⟨xd, pd, ed, ld, bd, nd, rd⟩ := open_aclc t5
  obtain ⟨X, cx, L, e6, l6, b6⟩ := open_xts t6
  have b0 := bounds_u8 w0
  have b1 := bounds_u16 w1
  have b2 := bounds_u16 w2
  obtain ⟨z0, rfl⟩ := Int.eq_ofNat_of_zero_le b0.1
  obtain ⟨z1, rfl⟩ := Int.eq_ofNat_of_zero_le b1.1
  obtain ⟨z2, rfl⟩ := Int.eq_ofNat_of_zero_le b2.1
  simp only [List.cons.injEq, and_true] at ea ed
  obtain ⟨rfl, rfl, rfl, rfl, rfl, rfl, rfl⟩ := ea
  obtain ⟨rfl, rfl, rfl, rfl, rfl, rfl, rfl⟩ := ed
  subst e0 e1 e2 e4 e6
  exact ⟨⟨z0, z1, z2, xa, hd, xd, L⟩, ⟨pa, pd, X, cx⟩, rfl, ⟨la, ld, l6⟩, ⟨ba, bd, b6⟩, ⟨by show z1 < 65536; omega, by show z2 < 65536; omega, na, nd⟩, ⟨ra.1, ra.2.1, ra.2.2.1, ra.2.2.2, fun k q hk => (na.gs k q hk).2⟩, by show z0 < 256; omega⟩
end
end Go.Proofs.Ytgdiiicaljidpaa
