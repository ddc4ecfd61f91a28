/- Rows of entries, scripts, and lists of lists, as arguments. -/
import Derived.Test.YtphjppnkackmmaaZk
import Derived.Test.YtphjppnkackmmaaZp
import Derived.Test.YtphjppnkackmmaaKit
import Derived.Test.YtphjppnkackmmaaRows
import Derived.ProofKit
import Derived.SizedLaws
import Derived.Deep.Slices
import Derived.Deep.Fields
import Derived.ChangeSame
import Derived.OpenShut
set_option linter.unusedSimpArgs false
set_option linter.unusedVariables false
namespace Go.Proofs.Ytphjppnkackmmaa
open SumMath Go.ChangeShapes Go.WideShapes Go.ChangeAt Go.WideMaps Go.WideElems Go.RowKit Go.Deep
instance : Inhabited Lx := ⟨lx0⟩
instance : Inhabited St := ⟨s0⟩
theorem own : ownKnob Try.prog.godebug = none := by kernel_rfl
theorem laidOut : laidOutB Try.prog = true := by kernel_rfl
theorem getD_map_range {α : Type} (f : Nat → α) (d : α) (n k : Nat) (h : k < n) : ((List.range n).map f).getD k d = f k := by
  simp [List.getD_eq_getElem?_getD, h]
theorem weights_in_all {H : Type} {P : Program} {e : TypeId} {x : DataW H} {l : List (DataW H)} (h : x ∈ l) {n : Nat} (hn : n ∈ x.weights P e) : n ∈ DataW.weightsAll P e l := by
  induction l with
  | nil => cases h
  | cons y r ih =>
    have e1 : DataW.weightsAll P e (y :: r) = y.weights P e ++ DataW.weightsAll P e r := by rw [DataW.weightsAll]
    rw [e1]
    rw [List.mem_append]
    rcases List.mem_cons.1 h with rfl | h
    · exact .inl hn
    · exact .inr (ih h)
theorem addr_sp {w : World} {a : Addr} {v : Value} (h : w.cell? a = some v) : a.spot = none := by
  obtain ⟨b, o, sp⟩ := a
  cases sp with
  | none => rfl
  | some q =>
    unfold World.cell? at h
    split at h
    · simp at h
    · cases h
section
variable {H : Type} {enc : TypeId × Value → H} {w : World}
set_option maxRecDepth 100000 in
/-- A row of entries. -/
theorem open_redosF {fuel : Nat} {c : Value} {x : DataW H × List MemPlace} (hf : DataW.trod enc Try.prog w 0 (fun _ => true) true fuel 28 [c] = some x) :
    ∃ A cp l, c = .slice A (List.length l) cp ∧ Cel w A (ev l) ∧ RN l ∧ l.length ≤ 9223372036854775807 ∧ (l.length = 0 ∨ ∃ es sp, x.1 = .slice es sp ∧ es.length = l.length) := by
  rcases open_slice Try.underlying28 hf with ⟨hcs, _⟩ | ⟨a, len, cap, m, n, D, Pl, hcs, _, hl, hm, hmm, hxe, hx⟩
  · injection hcs with hcs
    exact ⟨none, 0, [], hcs, Cel.nil _ _, fun k hk => absurd hk (by simp), by simp, .inl rfl⟩
  · injection hcs with hcs
    have hlm : len ≤ m := by rw [hmm]; split <;> omega
    have hC : Try.prog.cellsOf 38 = 2 := by kernel_rfl
    have hone := hone_of (P := Try.prog) (fs := #[{ name := "At", type := 3, offset := 0, embedded := false, tag := "", pkgPath := "", byteOffset := 0 },
        { name := "Word", type := 31, offset := 1, embedded := false, tag := "", pkgPath := "", byteOffset := 8 }]) (by kernel_rfl)
    have each : ∀ i, i < len → ∃ s : Re, (w.cell? ((a.add (i * 2)).add 0) = some (.int .i64 s.pos) ∧ w.cell? ((a.add (i * 2)).add 1) = some (.int .u64 (s.word : Int))) ∧ -9223372036854775808 ≤ s.pos ∧ s.pos ≤ 9223372036854775807 ∧ s.word < 18446744073709551616 := by
      intro i hi
      obtain ⟨cs', hc, ht⟩ := hx i (by omega)
      rw [hC] at hc
      obtain ⟨ys, n', _, _, hlen, hyl, hfl⟩ := DataW.trod_struct Try.underlying38 ht
      rw [hC] at hlen
      obtain ⟨_, _, hat⟩ := World.cells?_some hc
      match cs', hlen with
      | [v0, v1], _ =>
        match ys, hyl with
        | [y0, y1], _ =>
          have g0 := hfl 0 _ rfl
          have g1 := hfl 1 _ rfl
          rw [(hone 0 _ rfl).2] at g0
          rw [(hone 1 _ rfl).2] at g1
          simp only [List.getElem?_cons_zero, List.getElem?_cons_succ] at g0 g1
          obtain ⟨n0, e0, _, w0⟩ := DataW.trod_int Try.underlying3 g0
          obtain ⟨n1, e1, _, w1⟩ := DataW.trod_int Try.underlying31 g1
          injection e0 with e0
          injection e1 with e1
          subst e0 e1
          have b0 := bounds_i64 w0
          have b1 := bounds_u64 w1
          obtain ⟨x, rfl⟩ := Int.eq_ofNat_of_zero_le b1.1
          exact ⟨⟨n0, x⟩, ⟨hat 0 (by omega), hat 1 (by omega)⟩, b0.1, b0.2, by have := b1.2; simp only; omega⟩
    obtain ⟨f, hfs⟩ := choose_lt each
    have hL : ((List.range len).map f).length = len := by rw [List.length_map, List.length_range]
    refine ⟨some a, cap, (List.range len).map f, by rw [hL]; exact hcs, fun h0 => ?_, fun k hk => ?_, by rw [hL]; unfold maxLen at hm; omega, .inr ⟨_, _, by rw [hxe], by rw [hL, List.length_map, List.length_range]⟩⟩
    · rw [ev_length, hL] at h0
      have h00 := (hfs 0 (by omega)).1.1
      obtain ⟨b, o, sp⟩ := a
      have e00 : (((⟨b, o, sp⟩ : Addr).add (0 * 2)).add 0) = ⟨b, o, sp⟩ := by simp [Addr.add]
      have hsp := addr_sp h00
      rw [e00] at hsp
      simp only at hsp
      subst hsp
      have ad : ∀ k j, (((⟨b, o, none⟩ : Addr).add (k * 2)).add j) = ⟨b, o + (k * 2 + j), none⟩ := fun k j => by
        unfold Addr.add
        by_cases hk : k * 2 = 0 <;> by_cases hj : j = 0 <;> simp only [hk, hj, if_true, if_false, Nat.add_zero, Nat.zero_add, Nat.add_assoc]
      have ad1 : ∀ j, (⟨b, o, none⟩ : Addr).add j = ⟨b, o + j, none⟩ := fun j => by
        unfold Addr.add
        by_cases hj : j = 0 <;> simp [hj]
      refine ⟨_, rfl, ?_, fun j u hu => ?_⟩
      · have := World.block_lt_of_cell? w _ h00
        rw [ad] at this
        exact this
      · have hj : j < len * 2 := by have := (List.getElem?_eq_some_iff.1 hu).1; rwa [ev_length, hL] at this
        obtain ⟨g1, g2⟩ := ev_get (L := (List.range len).map f) (k := j / 2) (by rw [hL]; omega)
        obtain ⟨⟨x0, x1⟩, _⟩ := hfs (j / 2) (by omega)
        rw [getD_map_range f re0 len (j / 2) (by omega)] at g1 g2
        rw [ad] at x0 x1
        rw [ad1]
        rcases (show j % 2 = 0 ∨ j % 2 = 1 by omega) with hp | hp
        · have e : j = j / 2 * 2 := by omega
          rw [← e] at g1
          rw [g1] at hu
          injection hu with hu
          rw [← hu, ← x0]
          congr 2
          omega
        · have e : j = j / 2 * 2 + 1 := by omega
          rw [← e] at g2
          rw [g2] at hu
          injection hu with hu
          rw [← hu, ← x1]
          congr 2
          omega
    · have hk' : k < len := by rwa [hL] at hk
      rw [getD_map_range f re0 len k hk']
      exact (hfs k hk').2
theorem open_redos {base : Nat} {v : Value} {d : DataW H} {ps : List MemPlace} (hok : Value.okWide Try.prog w .any base 28 v) (h : DataW.Trod enc Try.prog w 0 (fun _ => true) true 28 v d ps) :
    ∃ A c l, v = .slice A (List.length l) c ∧ Cel w A (ev l) ∧ l.length ≤ 9223372036854775807 ∧ RN l := by
  obtain ⟨a0, len, cap, rfl⟩ := okWide_slice Try.underlying28 hok
  obtain ⟨fuel, hf⟩ := h
  simp only [Value.cells] at hf
  obtain ⟨A, cp, l, e, h1, h2, h3, _⟩ := open_redosF hf
  exact ⟨A, cp, l, e, h1, h3, h2⟩
set_option maxRecDepth 100000 in
/-- Lists of lists. -/
theorem open_lists {base : Nat} {v : Value} {d : DataW H} {ps : List MemPlace} (hok : Value.okWide Try.prog w .any base 47 v) (h : DataW.Trod enc Try.prog w 0 (fun _ => true) true 47 v d ps) :
    ∃ A c l, v = .slice A (List.length l) c ∧ LRow w A l ∧ l.length ≤ 9223372036854775807 ∧ ∀ k, k < l.length → LOK w (l.getD k lx0) := by
  obtain ⟨a0, len, cap, rfl⟩ := okWide_slice Try.underlying47 hok
  obtain ⟨fuel, hf⟩ := h
  simp only [Value.cells] at hf
  rcases open_slice1 Try.underlying47 (by kernel_rfl) hf with ⟨hcs, _⟩ | ⟨a, len', cap', m, n, V, D, Pl, hcs, _, hl, hm, hmm, _, hx⟩
  · injection hcs with hcs
    rw [hcs]
    exact ⟨none, 0, [], rfl, fun h0 => absurd h0 (by simp), by simp, fun k hk => absurd hk (by simp)⟩
  · injection hcs with hcs
    have hlm : len' ≤ m := by rw [hmm]; split <;> omega
    have each : ∀ i, i < len' → ∃ s : Lx, w.cell? (a.add i) = some (.slice s.ka s.l.length s.kc) ∧ LOK w s := by
      intro i hi
      obtain ⟨h1, h2⟩ := hx i (by omega)
      obtain ⟨A, cp, l, e, k1, k2, k3, _⟩ := open_redosF h2
      rw [e] at h1
      exact ⟨⟨A, l, cp⟩, h1, k1, k3, k2⟩
    obtain ⟨f, hfs⟩ := choose_lt each
    have hL : ((List.range len').map f).length = len' := by rw [List.length_map, List.length_range]
    refine ⟨some a, cap', (List.range len').map f, by rw [hL]; exact hcs, fun h0 => ?_, by rw [hL]; unfold maxLen at hm; omega, fun k hk => ?_⟩
    · rw [hL] at h0
      have h00 := (hfs 0 h0).1
      obtain ⟨b, o, sp⟩ := a
      have e00 : (⟨b, o, sp⟩ : Addr).add 0 = ⟨b, o, sp⟩ := by simp [Addr.add]
      have hsp := addr_sp h00
      rw [e00] at hsp
      simp only at hsp
      subst hsp
      have ad1 : ∀ j, (⟨b, o, none⟩ : Addr).add j = ⟨b, o + j, none⟩ := fun j => by
        unfold Addr.add
        by_cases hj : j = 0 <;> simp [hj]
      refine ⟨b, o, rfl, ?_, fun k hk => ?_⟩
      · have := World.block_lt_of_cell? w _ h00
        rw [ad1] at this
        exact this
      · have hk' : k < len' := by rwa [hL] at hk
        rw [getD_map_range f lx0 len' k hk', ← ad1]
        exact (hfs k hk').1
    · have hk' : k < len' := by rwa [hL] at hk
      rw [getD_map_range f lx0 len' k hk']
      exact (hfs k hk').2
set_option maxRecDepth 100000 in
/-- A script; its lists are bounded by what the form reaches. -/
theorem open_script {base : Nat} {v : Value} {d : DataW H} {ps : List MemPlace} (hok : Value.okWide Try.prog w .any base 22 v) (h : DataW.Trod enc Try.prog w 0 (fun _ => true) true 22 v d ps) (hz : ∀ n ∈ d.weights Try.prog 22, n ≤ reachBytes) :
    ∃ A c l, v = .slice A (List.length l) c ∧ SRow w A l ∧ l.length ≤ 9223372036854775807 ∧ ∀ k, k < l.length → StOK w (l.getD k s0) := by
  obtain ⟨a0, len, cap, rfl⟩ := okWide_slice Try.underlying22 hok
  obtain ⟨fuel, hf⟩ := h
  simp only [Value.cells] at hf
  rcases open_slice Try.underlying22 hf with ⟨hcs, _⟩ | ⟨a, len', cap', m, n, D, Pl, hcs, _, hl, hm, hmm, hde, hx⟩
  · injection hcs with hcs
    rw [hcs]
    exact ⟨none, 0, [], rfl, fun h0 => absurd h0 (by simp), by simp, fun k hk => absurd hk (by simp)⟩
  · injection hcs with hcs
    injection hde with hde _
    have hlm : len' ≤ m := by rw [hmm]; split <;> omega
    have hC : Try.prog.cellsOf 33 = 4 := by kernel_rfl
    have hone := hone_of (P := Try.prog) (fs := #[{ name := "Do", type := 3, offset := 0, embedded := false, tag := "", pkgPath := "", byteOffset := 0 },
        { name := "L", type := 28, offset := 1, embedded := false, tag := "", pkgPath := "", byteOffset := 8 },
        { name := "At", type := 3, offset := 2, embedded := false, tag := "", pkgPath := "", byteOffset := 32 },
        { name := "Word", type := 31, offset := 3, embedded := false, tag := "", pkgPath := "", byteOffset := 40 }]) (by kernel_rfl)
    have each : ∀ i, i < len' → ∃ s : St, (w.cell? ((a.add (i * 4)).add 0) = some (.int .i64 s.act) ∧ w.cell? ((a.add (i * 4)).add 1) = some (.slice s.ka s.l.length s.kc) ∧ w.cell? ((a.add (i * 4)).add 2) = some (.int .i64 s.pos) ∧ w.cell? ((a.add (i * 4)).add 3) = some (.int .u64 (s.word : Int))) ∧ StOK w s := by
      intro i hi
      obtain ⟨cs', hc, ht⟩ := hx i (by omega)
      rw [hC] at hc
      obtain ⟨ys, n', _, hxe, hlen, hyl, hfl⟩ := DataW.trod_struct Try.underlying33 ht
      rw [hC] at hlen
      obtain ⟨_, _, hat⟩ := World.cells?_some hc
      match cs', hlen with
      | [v0, v1, v2, v3], _ =>
        match ys, hyl with
        | [y0, y1, y2, y3], _ =>
          have g0 := hfl 0 _ rfl
          have g1 := hfl 1 _ rfl
          have g2 := hfl 2 _ rfl
          have g3 := hfl 3 _ rfl
          rw [(hone 0 _ rfl).2] at g0
          rw [(hone 1 _ rfl).2] at g1
          rw [(hone 2 _ rfl).2] at g2
          rw [(hone 3 _ rfl).2] at g3
          simp only [List.getElem?_cons_zero, List.getElem?_cons_succ] at g0 g1 g2 g3
          obtain ⟨n0, e0, _, _⟩ := DataW.trod_int Try.underlying3 g0
          obtain ⟨A, cp, l, e1, k1, k2, k3, k4⟩ := open_redosF g1
          obtain ⟨n2, e2, _, w2⟩ := DataW.trod_int Try.underlying3 g2
          obtain ⟨n3, e3, _, w3⟩ := DataW.trod_int Try.underlying31 g3
          injection e0 with e0
          injection e2 with e2
          injection e3 with e3
          subst e0 e1 e2 e3
          have b2 := bounds_i64 w2
          have b3 := bounds_u64 w3
          obtain ⟨x, rfl⟩ := Int.eq_ofNat_of_zero_le b3.1
          refine ⟨⟨n0, A, l, cp, n2, x⟩, ⟨hat 0 (by omega), hat 1 (by omega), hat 2 (by omega), hat 3 (by omega)⟩, k1, ?_, k2, b2.1, b2.2, by have := b3.2; simp only; omega⟩
          rcases k4 with k4 | ⟨es, sp, k4, k5⟩
          · simp only; omega
          · have hDi : D i = .agg [y0.1, .slice es sp, y2.1, y3.1] := by
              have := congrArg Prod.fst hxe
              simp only [List.map_cons, List.map_nil, k4] at this
              exact this
            have hmem : (es.length + sp.length) * Try.prog.bytesOf 38 ∈ d.weights Try.prog 22 := by
              rw [hde]
              simp only [DataW.weights, Try.underlying22, List.mem_cons, List.mem_append]
              refine Or.inr (Or.inl (weights_in_all (x := D i) (List.mem_map.2 ⟨i, List.mem_range.2 hi, rfl⟩) ?_))
              rw [hDi]
              simp only [DataW.weights, Try.underlying33]
              exact DataW.weights_mem_each (j := 1) (t := 28) (by rfl) (by rfl) _ (by simp [DataW.weights, Try.underlying28])
            have := hz _ hmem
            have hb : Try.prog.bytesOf 38 = 16 := by kernel_rfl
            rw [hb] at this
            unfold reachBytes at this
            simp only
            omega
    obtain ⟨f, hfs⟩ := choose_lt each
    have hL : ((List.range len').map f).length = len' := by rw [List.length_map, List.length_range]
    refine ⟨some a, cap', (List.range len').map f, by rw [hL]; exact hcs, fun h0 => ?_, by rw [hL]; unfold maxLen at hm; omega, fun k hk => ?_⟩
    · rw [hL] at h0
      have h00 := (hfs 0 h0).1.1
      obtain ⟨b, o, sp⟩ := a
      have e00 : (((⟨b, o, sp⟩ : Addr).add (0 * 4)).add 0) = ⟨b, o, sp⟩ := by simp [Addr.add]
      have hsp := addr_sp h00
      rw [e00] at hsp
      simp only at hsp
      subst hsp
      have ad : ∀ k j, (((⟨b, o, none⟩ : Addr).add (k * 4)).add j) = ⟨b, o + k * 4 + j, none⟩ := fun k j => by
        unfold Addr.add
        by_cases hk : k * 4 = 0 <;> by_cases hj : j = 0 <;> simp only [hk, hj, if_true, if_false, Nat.add_zero]
      refine ⟨b, o, rfl, ?_, fun k hk => ?_⟩
      · have := World.block_lt_of_cell? w _ h00
        rw [ad] at this
        exact this
      · have hk' : k < len' := by rwa [hL] at hk
        rw [getD_map_range f s0 len' k hk']
        obtain ⟨⟨x0, x1, x2, x3⟩, _⟩ := hfs k hk'
        rw [ad] at x0 x1 x2 x3
        exact ⟨x0, x1, x2, x3⟩
    · have hk' : k < len' := by rwa [hL] at hk
      rw [getD_map_range f s0 len' k hk']
      exact (hfs k hk').2
end
end Go.Proofs.Ytphjppnkackmmaa
