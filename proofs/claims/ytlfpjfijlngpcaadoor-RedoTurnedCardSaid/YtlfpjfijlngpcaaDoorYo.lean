/- What the listed variables give the walks, and the start that meets the condition. -/
import Derived.Test.YtlfpjfijlngpcaaDoorRows
import Derived.Test.YtlfpjfijlngpcaaDoorSum1
import Derived.Test.YtlfpjfijlngpcaaDoorErr0
import Derived.Test.YtlfpjfijlngpcaaDoorYb
import Derived.Test.YtlfpjfijlngpcaaDoorYa
import Derived.Test.YtlfpjfijlngpcaaDoorKit
import Derived.ProofKit
import Derived.LaidMore
import Derived.LaidHandle
import Derived.OpenShut
import Derived.Stop.Joined
import Derived.Stop.LaidErr
import Derived.Lib.LaidTab
import Derived.Deep.Slices
import Derived.Deep.Fields
import Derived.ChangeSame
import Derived.Lib.SmallJoins
namespace Go.Proofs.YtlfpjfijlngpcaaDoor
open SumMath Go.Joins Go.ChangeShapes Go.WideShapes Go.ChangeAt Go.WideMaps Go.WideElems Go.RowKit Go.Deep

theorem own : ownKnob Tryd.prog.godebug = none := by kernel_rfl
theorem laidOut : laidOutB Tryd.prog = true := by kernel_rfl
theorem gTab : Tryd.prog.globalNamed "parclose/sum.halved" = some 5 := by kernel_rfl
theorem gErr : Tryd.prog.globalNamed "errors.errorType" = some 4 := by kernel_rfl
theorem gC : Tryd.prog.globalNamed "parclose/redo.errClear" = some 0 := by kernel_rfl
theorem gG : Tryd.prog.globalNamed "parclose/redo.errLength" = some 1 := by kernel_rfl
theorem gM : Tryd.prog.globalNamed "parclose/redo.errCommit" = some 2 := by kernel_rfl
theorem gA : Tryd.prog.globalNamed "parclose/redo.errAt" = some 3 := by kernel_rfl
theorem tTab : (Tryd.prog.globals[5]?).map (·.type) = some 108 := by kernel_rfl
theorem tC : (Tryd.prog.globals[0]?).map (·.type) = some 41 := by kernel_rfl
theorem tG : (Tryd.prog.globals[1]?).map (·.type) = some 41 := by kernel_rfl
theorem tM : (Tryd.prog.globals[2]?).map (·.type) = some 41 := by kernel_rfl
theorem tA : (Tryd.prog.globals[3]?).map (·.type) = some 41 := by kernel_rfl
theorem rtErr : (Tryd.prog.cutTypes.find? (·.1 == "internal/reflectlite.rtype")).map (·.2) = some 92 := by kernel_rfl
theorem rowErr : ((List.range Tryd.prog.types.size).filter fun t => Tryd.prog.rowNamed t [101, 114, 114, 111, 114]) = [41] := by kernel_rfl
theorem starErr : "*" ++ "errors.errorString" = "*errors.errorString" := by decide
theorem rowStr (u : TypeId) (h : Tryd.prog.typeName? 3 u = some "*errors.errorString") : u = 111 :=
  typeName_ptr_named (nm := "errors.errorString") (by rw [starErr]; kernel_rfl) (by kernel_rfl) (by decide) u (by rw [starErr]; exact h)
theorem cellsStr : Tryd.prog.cellsOf 132 = 1 := by kernel_rfl
theorem cellsString : Tryd.prog.cellsOf 9 = 1 := by kernel_rfl
/-- The list of the rows. -/
def laidL : List (String × DataW Unit) := [("errors.errorType", Rows.laid_errors_errorType), ("parclose/sum.halved", Rows.laid_parclose_sum_halved), ("parclose/redo.errClear", Rows.laid_parclose_redo_errClear), ("parclose/redo.errLength", Rows.laid_parclose_redo_errLength), ("parclose/redo.errCommit", Rows.laid_parclose_redo_errCommit), ("parclose/redo.errAt", Rows.laid_parclose_redo_errAt)]
abbrev laidD : List (String × DataW Unit) := [("parclose/sum.halved", Rows.laid_parclose_sum_halved), ("parclose/redo.errClear", Rows.laid_parclose_redo_errClear), ("parclose/redo.errLength", Rows.laid_parclose_redo_errLength), ("parclose/redo.errCommit", Rows.laid_parclose_redo_errCommit), ("parclose/redo.errAt", Rows.laid_parclose_redo_errAt)]
theorem door_met (os : Os) (args : Array Value) : laidMetH Tryd.prog laidL ((World.doorLaid Tryd.prog 97 os).forCall (fun _ _ => 0) ⟨#[], args, []⟩).memory :=
  laidMetH_of_parts3 (fuel := 8) (laidMet_of_run' (l := laidD) 8 (by kernel_rfl) (by kernel_rfl)) (by kernel_rfl) (by kernel_rfl)
def tabInts : List Int := SumMath.tab.map fun (x : Nat) => (x : Int)
theorem tab_data : (Rows.laid_parclose_sum_halved : DataW Unit) = Lib.tabData .u32 tabInts := by rfl
theorem laid_parts {W : World} (h : laidMetH Tryd.prog laidL W) : laidMet Tryd.prog laidD W ∧ handlesMet Tryd.prog [("errors.errorType", Rows.laid_errors_errorType)] W := h
theorem tab_of_laid {W : World} (h : laidMetH Tryd.prog laidL W) : TabAt W := by
  have h := (laid_parts h).1
  unfold laidD at h
  rw [tab_data] at h
  have ht := Lib.tabIs_of_head gTab tTab Tryd.underlying108 Tryd.underlying48 (by kernel_rfl) (by kernel_rfl) h
  intro j hj
  have := ht.cell gTab j (by simpa [tabInts, SumMath.tab] using hj)
  rw [this]
  unfold tabInts
  simp only [List.getD_eq_getElem?_getD, List.getElem?_map]
  have hj' : j < SumMath.tab.length := by simpa [SumMath.tab] using hj
  rw [List.getElem?_eq_getElem hj']
  rfl
theorem err_of_laid {W : World} (h : laidMetH Tryd.prog laidL W) : ErrAt W := by
  obtain ⟨name, u, ty, e1, e2, e3, e4, e5⟩ := (laid_parts h).2 _ (List.mem_singleton.2 rfl)
  have en : name = [101, 114, 114, 111, 114] := (Option.some.inj e1).symm
  subst en
  obtain rfl := Option.some.inj (rtErr.symm.trans e2)
  have hm : ty ∈ (List.range Tryd.prog.types.size).filter fun t => Tryd.prog.rowNamed t [101, 114, 114, 111, 114] := List.mem_filter.2 ⟨List.mem_range.2 e3, e4⟩
  rw [rowErr] at hm
  obtain rfl := List.mem_singleton.1 hm
  have hh : typeHandle Tryd.prog 41 = .pointer (some ⟨6, 41, none⟩) := by kernel_rfl
  rw [hh] at e5
  have := World.var?_cell gErr e5 0
  unfold ErrAt
  simpa using this
set_option maxRecDepth 100000 in
/-- The four errors are as their initialisers lay them. -/
theorem sn_of_laid {W : World} (h : laidMetH Tryd.prog laidL W) : ∃ n, SnAt W n := by
  have h := (laid_parts h).1.tail
  obtain ⟨ps, ⟨g0, t0, cs0, f0, p0, q0, hg0, ht0, hv0, hd0, ⟨g1, t1, cs1, f1, p1, q1, hg1, ht1, hv1, hd1, ⟨g2, t2, cs2, f2, p2, q2, hg2, ht2, hv2, hd2, ⟨g3, t3, cs3, f3, p3, q3, hg3, ht3, hv3, hd3, hq3, e3⟩, e2⟩, e1⟩, e0⟩, hnd, hrows⟩ := h
  obtain rfl := Option.some.inj (gC.symm.trans hg0)
  obtain rfl := Option.some.inj (gG.symm.trans hg1)
  obtain rfl := Option.some.inj (gM.symm.trans hg2)
  obtain rfl := Option.some.inj (gA.symm.trans hg3)
  obtain rfl := Option.some.inj (tC.symm.trans ht0)
  obtain rfl := Option.some.inj (tG.symm.trans ht1)
  obtain rfl := Option.some.inj (tM.symm.trans ht2)
  obtain rfl := Option.some.inj (tA.symm.trans ht3)
  have hq3' : q3 = [] := hq3
  subst hq3'
  subst e3
  subst e2
  subst e1
  subst e0
  obtain ⟨l0⟩ := cs0
  obtain ⟨l1⟩ := cs1
  obtain ⟨l2⟩ := cs2
  obtain ⟨l3⟩ := cs3
  have c0 := World.var?_cell hg0 hv0 0
  have c1 := World.var?_cell hg1 hv1 0
  have c2 := World.var?_cell hg2 hv2 0
  have c3 := World.var?_cell hg3 hv3 0
  have ok0 : ∀ u v, l0 = [.iface u v] → Value.okWide Tryd.prog W .any 0 u v := fun u v e => by
    subst e
    exact (hrows 0 0 (by simp [MemPlace.row])).2 u v (by simpa using c0)
  have ok1 : ∀ u v, l1 = [.iface u v] → Value.okWide Tryd.prog W .any 0 u v := fun u v e => by
    subst e
    exact (hrows 1 0 (by simp [MemPlace.row])).2 u v (by simpa using c1)
  have ok2 : ∀ u v, l2 = [.iface u v] → Value.okWide Tryd.prog W .any 0 u v := fun u v e => by
    subst e
    exact (hrows 2 0 (by simp [MemPlace.row])).2 u v (by simpa using c2)
  have ok3 : ∀ u v, l3 = [.iface u v] → Value.okWide Tryd.prog W .any 0 u v := fun u v e => by
    subst e
    exact (hrows 3 0 (by simp [MemPlace.row])).2 u v (by simpa using c3)
  obtain ⟨a0, s0, rfl, _, _, _, rfl⟩ := errorString_of_trod Tryd.underlying41 rowStr Tryd.underlying111 Tryd.underlying132 rfl rfl Tryd.underlying9 cellsStr cellsString hd0 ok0
  obtain ⟨a1, s1, rfl, _, _, _, rfl⟩ := errorString_of_trod Tryd.underlying41 rowStr Tryd.underlying111 Tryd.underlying132 rfl rfl Tryd.underlying9 cellsStr cellsString hd1 ok1
  obtain ⟨a2, s2, rfl, _, _, _, rfl⟩ := errorString_of_trod Tryd.underlying41 rowStr Tryd.underlying111 Tryd.underlying132 rfl rfl Tryd.underlying9 cellsStr cellsString hd2 ok2
  obtain ⟨a3, s3, rfl, _, _, _, rfl⟩ := errorString_of_trod Tryd.underlying41 rowStr Tryd.underlying111 Tryd.underlying132 rfl rfl Tryd.underlying9 cellsStr cellsString hd3 ok3
  exact ⟨⟨a0, a1, a2, a3⟩, by simpa [pV] using c0, by simpa [pV] using c1, by simpa [pV] using c2, by simpa [pV] using c3⟩
theorem getD_map_range {α : Type} (f : Nat → α) (d : α) (n k : Nat) (h : k < n) : ((List.range n).map f).getD k d = f k := by
  simp [List.getD_eq_getElem?_getD, h]
section
variable {H : Type} {enc : TypeId × Value → H} {w : World}
set_option maxRecDepth 100000 in
/-- A row of entries as an argument. -/
theorem open_redos {base : Nat} {v : Value} {d : DataW H} {ps : List MemPlace} (hok : Value.okWide Tryd.prog w .any base 22 v) (h : DataW.Trod enc Tryd.prog w 0 (fun _ => true) true 22 v d ps) :
    ∃ A c l, v = .slice A (List.length l) c ∧ Cel w A (ev l) ∧ l.length ≤ 9223372036854775807 ∧ RN l := by
  obtain ⟨a0, len, cap, rfl⟩ := okWide_slice Tryd.underlying22 hok
  obtain ⟨fuel, hf⟩ := h
  rcases open_slice Tryd.underlying22 hf with ⟨hcs, _⟩ | ⟨a, len', cap', m, n, D, Pl, hcs, _, hl, hm, hmm, _, hx⟩
  · simp [Value.cells] at hcs
    obtain ⟨rfl, rfl, rfl⟩ := hcs
    exact ⟨none, 0, [], rfl, Cel.nil _ _, by simp, fun k hk => absurd hk (by simp)⟩
  · simp [Value.cells] at hcs
    obtain ⟨rfl, rfl, rfl⟩ := hcs
    have hlm : len ≤ m := by rw [hmm]; split <;> omega
    have hC : Tryd.prog.cellsOf 45 = 2 := by kernel_rfl
    have hone := hone_of (P := Tryd.prog) (fs := #[{ name := "At", type := 3, offset := 0, embedded := false, tag := "", pkgPath := "", byteOffset := 0 },
        { name := "Word", type := 26, offset := 1, embedded := false, tag := "", pkgPath := "", byteOffset := 8 }]) (by kernel_rfl)
    have each : ∀ i, i < len → ∃ s : Re, (w.cell? ((a.add (i * 2)).add 0) = some (.int .i64 s.pos) ∧ w.cell? ((a.add (i * 2)).add 1) = some (.int .u64 (s.word : Int))) ∧ -9223372036854775808 ≤ s.pos ∧ s.pos ≤ 9223372036854775807 ∧ s.word < 18446744073709551616 := by
      intro i hi
      obtain ⟨cs', hc, ht⟩ := hx i (by omega)
      rw [hC] at hc
      obtain ⟨ys, n', _, _, hlen, hyl, hfl⟩ := DataW.trod_struct Tryd.underlying45 ht
      rw [hC] at hlen
      obtain ⟨_, _, hat⟩ := World.cells?_some hc
      match cs', hlen with
      | [v0, v1], _ =>
        match ys, hyl with
        | [y0, y1], _ =>
          have g0 := hfl 0 _ rfl
          have g1 := hfl 1 _ rfl
          rw [(hone 0 _ rfl).2] at g0
          rw [(hone 1 _ rfl).2] at g1
          simp only [List.getElem?_cons_zero, List.getElem?_cons_succ] at g0 g1
          obtain ⟨n0, e0, _, w0⟩ := DataW.trod_int Tryd.underlying3 g0
          obtain ⟨n1, e1, _, w1⟩ := DataW.trod_int Tryd.underlying26 g1
          injection e0 with e0
          injection e1 with e1
          subst e0 e1
          have b0 := bounds_i64 w0
          have b1 := bounds_u64 w1
          obtain ⟨x, rfl⟩ := Int.eq_ofNat_of_zero_le b1.1
          exact ⟨⟨n0, x⟩, ⟨hat 0 (by omega), hat 1 (by omega)⟩, b0.1, b0.2, by have := b1.2; simp only; omega⟩
    obtain ⟨f, hfs⟩ := choose_lt each
    have hL : ((List.range len).map f).length = len := by rw [List.length_map, List.length_range]
    refine ⟨some a, cap, (List.range len).map f, by rw [hL], fun h0 => ?_, by rw [hL]; unfold maxLen at hm; omega, fun k hk => ?_⟩
    · rw [ev_length, hL] at h0
      have h00 := (hfs 0 (by omega)).1.1
      obtain ⟨b, o, sp⟩ := a
      have hsp : sp = none := by
        cases sp with
        | none => rfl
        | some q =>
          have e : (((⟨b, o, some q⟩ : Addr).add (0 * 2)).add 0) = ⟨b, o, some q⟩ := by simp [Addr.add]
          rw [e] at h00
          unfold World.cell? at h00
          split at h00
          · simp at h00
          · cases h00
      subst hsp
      have ad : ∀ k j, (((⟨b, o, none⟩ : Addr).add (k * 2)).add j) = ⟨b, o + (k * 2 + j), none⟩ := fun k j => by
        unfold Addr.add
        by_cases hk : k * 2 = 0 <;> by_cases hj : j = 0 <;> simp only [hk, hj, if_true, if_false, Nat.add_zero, Nat.zero_add, Nat.add_assoc]
      have ad1 : ∀ j, (⟨b, o, none⟩ : Addr).add j = ⟨b, o + j, none⟩ := fun j => by
        unfold Addr.add
        by_cases hj : j = 0 <;> simp [hj]
      refine ⟨_, rfl, ?_, fun j u hu => ?_⟩
      · have := block_lt_of_cell h00
        rw [ad] at this
        exact this
      · have hj : j < len * 2 := by have := (List.getElem?_eq_some_iff.1 hu).1; rwa [ev_length, hL] at this
        obtain ⟨g1, g2⟩ := ev_get (L := (List.range len).map f) (k := j / 2) (by rw [hL]; omega)
        obtain ⟨⟨x0, x1⟩, _⟩ := hfs (j / 2) (by omega)
        rw [getD_map_range f re0 len (j / 2) (by omega)] at g1 g2
        rw [ad] at x0 x1
        rw [ad1]
        rcases (show j % 2 = 0 ∨ j % 2 = 1 by omega) with hp | hp
        · have e : j = j / 2 * 2 := by omega
          rw [← e] at g1
          rw [g1] at hu
          injection hu with hu
          rw [← hu, ← x0]
          congr 2
          omega
        · have e : j = j / 2 * 2 + 1 := by omega
          rw [← e] at g2
          rw [g2] at hu
          injection hu with hu
          rw [← hu, ← x1]
          congr 2
          omega
    · have hk' : k < len := by rwa [hL] at hk
      rw [getD_map_range f re0 len k hk']
      exact (hfs k hk').2
end
end Go.Proofs.YtlfpjfijlngpcaaDoor
