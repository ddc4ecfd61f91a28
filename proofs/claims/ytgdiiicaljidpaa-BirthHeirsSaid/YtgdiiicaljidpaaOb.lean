/- What the contracts of owner share: a store into a part of a block, results in cells, rows of one's own. -/
import Derived.Test.YtgdiiicaljidpaaOm
import Derived.Test.YtgdiiicaljidpaaGaT
import Derived.Test.YtgdiiicaljidpaaLwT
import Derived.Test.YtgdiiicaljidpaaAcT
import Derived.Great.BuildSlice
set_option linter.unusedSimpArgs false
set_option linter.unusedVariables false
set_option linter.unusedSimpArgs false
set_option linter.unusedVariables false
namespace Go.Proofs.Ytgdiiicaljidpaa
open Go.RowKit
section
variable {P : Program}
theorem setRow_same (w : World) (g : Nat) (t : TypeId) (cur : Array Value) (hg : w.heap[g]? = some (.cells cur t (0, 0))) : w.setRow g cur = w := by
  have h := run_storeCells_from (P := Try.prog) g t [] cur.size cur w hg (by simp) (by simp)
  have e : (cur.toList.take cur.size ++ []).toArray = cur := by rw [List.append_nil, ← Array.length_toList, List.take_length]
  rw [e] at h
  simp only [storeCells] at h
  injection h with _ h
  exact h.symm
theorem part_step {α : Type} (l : List α) (v : α) (rest : List α) (k : Nat) (h : k < l.length) :
    (l.set k v).take (k + 1) ++ rest ++ (l.set k v).drop (k + 1 + rest.length) = l.take k ++ (v :: rest) ++ l.drop (k + (rest.length + 1)) := by
  apply List.ext_getElem?
  intro j
  simp only [List.getElem?_append, List.length_append, List.length_take, List.length_set, List.length_cons, List.getElem?_take, List.getElem?_drop, List.getElem?_set]
  by_cases h1 : j < k
  · simp [h1, show j < k + 1 by omega, show j < min (k + 1) l.length by omega, show j < min k l.length by omega, show k ≠ j by omega, show j < min (k + 1) l.length + rest.length by omega, show j < min k l.length + (rest.length + 1) by omega]
  · by_cases h2 : j = k
    · subst h2
      simp [h, show j < min (j + 1) l.length by omega, show ¬ j < min j l.length by omega, show j < min (j + 1) l.length + rest.length by omega, show j < min j l.length + (rest.length + 1) by omega, show j - min j l.length = 0 by omega]
    · have h3 : ¬ j < min (k + 1) l.length := by omega
      have h4 : ¬ j < min k l.length := by omega
      by_cases h5 : j < k + 1 + rest.length
      · have e : j - min k l.length = (j - min (k + 1) l.length) + 1 := by omega
        simp [h3, h4, show j < min (k + 1) l.length + rest.length by omega, show j < min k l.length + (rest.length + 1) by omega, e]
      · have e1 : k + 1 + rest.length + (j - (min (k + 1) l.length + rest.length)) = j := by omega
        have e2 : k + (rest.length + 1) + (j - (min k l.length + (rest.length + 1))) = j := by omega
        simp [show ¬ j < min (k + 1) l.length + rest.length by omega, show ¬ j < min k l.length + (rest.length + 1) by omega, e1, e2, show k ≠ j by omega]
theorem run_storeCells_at (g o : Nat) (t : TypeId) : ∀ (vs : List Value) (i : Nat) (cur : Array Value) (w : World), w.heap[g]? = some (.cells cur t (0, 0)) → o + i + vs.length ≤ cur.size → (∀ v ∈ vs, v.oneCell' = true) →
    (storeCells ⟨g, o, none⟩ vs i).run P w = .ok () (w.setRow g (cur.toList.take (o + i) ++ vs ++ cur.toList.drop (o + i + vs.length)).toArray)
  | [], i, cur, w, hg, hl, _ => by
    have e : (cur.toList.take (o + i) ++ [] ++ cur.toList.drop (o + i + ([] : List Value).length)).toArray = cur := by simp
    rw [e, setRow_same w g t cur hg]
    rfl
  | v :: rest, i, cur, w, hg, hl, h1 => by
    have hi : o + i < cur.size := by simp at hl; omega
    have hadd : (⟨g, o, none⟩ : Addr).add i = ⟨g, o + i, none⟩ := by unfold Addr.add; split <;> simp_all
    have hcell : w.cell? ⟨g, o + i, none⟩ = some cur[o + i] := by simp [World.cell?, hg, hi]
    have hfro : w.frozen? ⟨g, o + i, none⟩ = false := by simp [World.frozen?, hg]
    have hst : (store ((⟨g, o, none⟩ : Addr).add i) v).run P w = .ok () (w.setRow g (cur.setIfInBounds (o + i) v)) := by
      rw [hadd, run_store P w _ v _ (h1 v (by simp)), hcell]
      simp [hfro, setCell_eq_setRow w g (o + i) cur t (0, 0) v hg]
    have ih := run_storeCells_at g o t rest (i + 1) (cur.setIfInBounds (o + i) v) (w.setRow g (cur.setIfInBounds (o + i) v)) (setRow_heap w g cur _ t _ hg) (by simp at hl ⊢; omega) (fun x hx => h1 x (by simp [hx]))
    simp only [storeCells, Sem.run_bind, hst, Result.andThen_ok, ih, setRow_setRow]
    congr 3
    simp only [Array.toList_setIfInBounds, List.length_cons]
    have := part_step cur.toList v rest (o + i) (by simpa using hi)
    simpa only [Nat.add_assoc] using this
theorem run_storeVar_part (w : World) (g k : Nat) (t ty : TypeId) (cur : Array Value) (v : Value) (vs : List Value) (hv : v.cells = vs.toArray) (hg : w.heap[g]? = some (.cells cur t (0, 0)))
    (hi : (P.info? ty).map (·.size) = some vs.length) (hle : k + vs.length ≤ cur.size) (h1 : ∀ v ∈ vs, v.oneCell' = true) (C : Array Value) (hC : (cur.toList.take k ++ vs ++ cur.toList.drop (k + vs.length)).toArray = C) :
    (storeVar ty ⟨g, k, none⟩ v).run P w = .ok () (w.setRow g C) := by
  have hs := run_storeCells_at (P := P) g k t vs 0 cur w hg (by simpa using hle) h1
  rw [Nat.add_zero, hC] at hs
  cases hq : P.info? ty with
  | none => simp [hq] at hi
  | some i =>
    have hz : i.size = vs.length := by simpa [hq] using hi
    simp [storeVar, sizeOf, typeInfo, hq, hv, hz, hs]
/-- A store into a part of a block: what it is then is said by the caller. -/
theorem wpList_store_part {ops : Array Oper} {rest : List Oper} {o : Oper} {a : Act} {w : World} {Q : Exit → Act → World → Prop} (hgd : o.guard = none) (ty : TypeId) (x y : Operand) (ho : o.op = .store ty x y)
    (hd : o.dst = none) (g k : Nat) (vs : List Value) (hx : a.eval x = .pointer (some ⟨g, k, none⟩)) (hy : (a.eval y).cells = vs.toArray) (t : TypeId) (cur : Array Value) (hg : w.heap[g]? = some (.cells cur t (0, 0)))
    (hi : (P.info? ty).map (·.size) = some vs.length) (hle : k + vs.length ≤ cur.size) (h1 : ∀ v ∈ vs, v.oneCell' = true) (C : Array Value) (hC : (cur.toList.take k ++ vs ++ cur.toList.drop (k + vs.length)).toArray = C)
    (h : wpList P ops Q rest a (w.setRow g C)) : wpList P ops Q (o :: rest) a w :=
  wpList_plain hgd fun _ hK => by
    have h' : wpList P ops Q rest (a.put o.dst undef) (w.setRow g C) := by rw [hd]; exact h
    unfold Oper.wp execOp
    simp only [ho, hx, Instr.storeAt, Instr.sureAddr, Sem.run_bind, Sem.run_pure, Result.andThen_ok, run_storeVar_part w g k t ty cur _ vs hy hg hi hle h1 C hC]
    exact hK _ _ h'
/-- Two results, the first of them in a block. -/
theorem results_row_tmp {fn : Func} {p q : Tmp} {ty : TypeId} (h : fn.results = #[.cell p ty, .tmp q]) (tmps : Array Value) (w : World) (g : Nat) (t : TypeId) (cs : Array Value) (fr : Nat × Nat) (d : TypeDesc) (v : Value)
    (hp : tmps.getD p undef = .pointer (some ⟨g, 0, none⟩)) (hg : w.heap[g]? = some (.cells cs t fr)) (hv : tmps.getD q undef = v)
    (hu : P.underlying ty = some d) (hd : (match d with | .struct _ | .array _ _ => true | _ => false) = true) (hi : (P.info? ty).map (·.size) = some cs.size) :
    (results fn tmps).run P w = .ok (.tuple #[.agg cs, v]) w := by
  have hp' : tmps[p]?.getD undef = .pointer (some ⟨g, 0, none⟩) := by simpa using hp
  have hv' : tmps[q]?.getD undef = v := by simpa using hv
  simp [results, h, hp', hv', asAddr, run_loadVar_row w g t ty cs fr d hg hu hd hi]
end
theorem OwnR.apart {w : World} {e e' : TypeId} {size n c g : Nat} {A : Option Addr} {xs : List Value} {C : Array Value} (h : OwnR w e size A n c xs) (hg : w.heap[g]? = some (.cells C e' (0, 0))) (he : e ≠ e') : ∀ ad, A = some ad → ad.block ≠ g := fun ad hA hbl => by
  obtain ⟨_, _, _, h4⟩ := h
  rcases h4 with ⟨h4, _⟩ | ⟨g', cur, h4, hg', _⟩
  · rw [h4] at hA; cases hA
  · rw [h4] at hA; injection hA with hA; subst hA
    simp only at hbl
    subst hbl
    rw [hg] at hg'
    injection hg' with hg'
    injection hg' with _ h5
    exact he h5.symm
theorem OwnR.below {w w' : World} {e : TypeId} {size n c : Nat} {A : Option Addr} {xs : List Value} (h : OwnR w e size A n c xs) (hb : Below w.heap.size w w') : OwnR w' e size A n c xs := h.keep fun ad e => hb.block _ (h.lt ad e)
theorem OwnR.turn {w : World} {e e' : TypeId} {size n c g : Nat} {A : Option Addr} {xs : List Value} {C : Array Value} (h : OwnR w e size A n c xs) (hg : w.heap[g]? = some (.cells C e' (0, 0))) (he : e ≠ e') (D : Array Value) : OwnR (w.setRow g D) e size A n c xs :=
  h.keep fun ad e1 => setRow_other w g ad.block D (h.apart hg he ad e1)
/-- A list's rows: rows of one's own. -/
structure LiesO (w : World) (x : Ac) (p : Lie) : Prop where
  us : OwnR w 53 2 p.A x.us.length p.c (nv x.us)
  gs : OwnR w 53 2 p.B x.gs.length p.d (nv x.gs)
theorem LiesO.lies {w : World} {x : Ac} {p : Lie} (h : LiesO w x p) : Lies w x p := ⟨h.us.cel, h.gs.cel⟩
theorem LiesO.below {w w' : World} {x : Ac} {p : Lie} (h : LiesO w x p) (hb : Below w.heap.size w w') : LiesO w' x p := ⟨h.us.below hb, h.gs.below hb⟩
theorem LiesO.turn {w : World} {x : Ac} {p : Lie} {g : Nat} {C : Array Value} {e' : TypeId} (h : LiesO w x p) (hg : w.heap[g]? = some (.cells C e' (0, 0))) (he : 53 ≠ e') (D : Array Value) : LiesO (w.setRow g D) x p := ⟨h.us.turn hg he D, h.gs.turn hg he D⟩
theorem LiesO.of {w w' : World} {x : Ac} {p : Lie} (h : Copied w w' x p) : LiesO w' x p := ⟨h.us.1, h.gs.1⟩
theorem LiesO.z (w : World) : LiesO w acZ lieZ := ⟨OwnR.nil _ _ _, OwnR.nil _ _ _⟩
/-- Attributes' rows: rows of one's own. -/
structure AOw (w : World) (x : At) (p : ALie) : Prop where
  ac : LiesO w x.ac p.p
  df : LiesO w x.df p.q
  xs : OwnR w 63 2 p.X x.xs.length p.n (xv x.xs)
abbrev alieZ : ALie := ⟨lieZ, lieZ, none, 0⟩
section
variable {w w' : World} {x : At} {p : ALie}
theorem AOw.lies (h : AOw w x p) : ALies w x p := ⟨h.ac.lies, h.df.lies, h.xs.cel⟩
theorem AOw.below (h : AOw w x p) (hb : Below w.heap.size w w') : AOw w' x p := ⟨h.ac.below hb, h.df.below hb, h.xs.below hb⟩
theorem AOw.turn {g : Nat} {C : Array Value} (h : AOw w x p) (hg : w.heap[g]? = some (.cells C 31 (0, 0))) (D : Array Value) : AOw (w.setRow g D) x p := ⟨h.ac.turn hg (by decide) D, h.df.turn hg (by decide) D, h.xs.turn hg (by decide) D⟩
theorem AOw.of (h : ACopied w w' x p) : AOw w' x p := ⟨.of h.ac, .of h.df, h.xs.1⟩
theorem AOw.z (w : World) : AOw w atZ alieZ := ⟨.z w, .z w, OwnR.nil _ _ _⟩
theorem AOw.bi (h : AOw w x p) (b : Nat) : AOw w (withBi x b) p := ⟨h.ac, h.df, h.xs⟩
theorem AOw.id (h : AOw w x p) (u g : Nat) : AOw w (withId x u g) p := ⟨h.ac, h.df, h.xs⟩
theorem AOw.acc (h : AOw w x p) {l : Ac} {q : Lie} (hl : LiesO w l q) : AOw w (withAc x l) ⟨q, p.q, p.X, p.n⟩ := ⟨hl, h.df, h.xs⟩
theorem AOw.dfl (h : AOw w x p) {l : Ac} {q : Lie} (b : Bool) (hl : LiesO w l q) : AOw w (withDf x b l) ⟨p.p, q, p.X, p.n⟩ := ⟨h.ac, hl, h.xs⟩
end
/-- At work: attributes in block g, their rows one's own, a result's block r; B: the world ahead of both. -/
structure Wk (B V : World) (g : Nat) (x : At) (p : ALie) (r : Nat) (R : Array Value) : Prop where
  bt : Bt V g x p
  ow : AOw V x p
  rb : V.heap[r]? = some (.cells R 31 (0, 0))
  be : Below B.heap.size B V
  hg : B.heap.size ≤ g
  hr : B.heap.size ≤ r
  ne : r ≠ g
section
variable {B V V' : World} {g r : Nat} {x : At} {p : ALie} {R : Array Value}
theorem Wk.on (h : Wk B V g x p r R) (hb : Below V.heap.size V V') : Wk B V' g x p r R :=
  ⟨h.bt.on hb, h.ow.below hb, (hb.block _ (lt_of_cells h.rb)).trans h.rb, h.be.trans (hb.mono h.be.size), h.hg, h.hr, h.ne⟩
theorem Wk.put (h : Wk B V g x p r R) {y : At} {q : ALie} (ho : AOw V y q) : Wk B (V.setRow g (y.c q)) g y q r R :=
  ⟨setRow_heap _ _ _ _ _ _ h.bt, ho.turn h.bt _, (setRow_other V g r _ h.ne).trans h.rb, below_setRow h.be h.hg _, h.hg, h.hr, h.ne⟩
theorem Wk.res (h : Wk B V g x p r R) (C : Array Value) : Wk B (V.setRow r C) g x p r C :=
  ⟨(setRow_other V r g _ (Ne.symm h.ne)).trans h.bt, h.ow.turn h.rb _, setRow_heap _ _ _ _ _ _ h.rb, below_setRow h.be h.hr _, h.hg, h.hr, h.ne⟩
theorem Wk.start {x : At} {p : ALie} (B : World) (h : AOw B x p) : Wk B ((B.alloc (.cells (x.c p) 31)).alloc (.cells zAt 31)) B.heap.size x p (B.heap.size + 1) zAt := by
  have b1 : Below B.heap.size B (B.alloc (.cells (x.c p) 31)) := (Below.refl _ _).alloc (Nat.le_refl _) _
  have b2 : Below (B.alloc (.cells (x.c p) 31)).heap.size (B.alloc (.cells (x.c p) 31)) ((B.alloc (.cells (x.c p) 31)).alloc (.cells zAt 31)) := (Below.refl _ _).alloc (Nat.le_refl _) _
  have b3 := b1.trans (b2.mono b1.size)
  refine ⟨(Bt.new B x p).on b2, h.below b3, ?_, b3, Nat.le_refl _, by omega, by omega⟩
  have := heap_alloc_new (B.alloc (.cells (x.c p) 31)) (.cells zAt 31)
  rwa [World.size_alloc] at this
end
theorem u8_size : (Try.prog.info? 5).map (·.size) = some 1 := by kernel_rfl
theorem u16_size : (Try.prog.info? 22).map (·.size) = some 1 := by kernel_rfl
theorem bool_size : (Try.prog.info? 4).map (·.size) = some 1 := by kernel_rfl
theorem off8 (k : Nat) (hk : k = 1 ∨ k = 2 ∨ k = 4) (a : Nat) (ha : a < 256) : bits .andNot .u8 (a : Int) (k : Int) = ((offN a k : Nat) : Int) := by
  have h1 : ∀ a : Fin 256, bits .andNot .u8 ((a.val : Nat) : Int) 1 = ((offN a.val 1 : Nat) : Int) := by decide +kernel
  have h2 : ∀ a : Fin 256, bits .andNot .u8 ((a.val : Nat) : Int) 2 = ((offN a.val 2 : Nat) : Int) := by decide +kernel
  have h4 : ∀ a : Fin 256, bits .andNot .u8 ((a.val : Nat) : Int) 4 = ((offN a.val 4 : Nat) : Int) := by decide +kernel
  rcases hk with rfl | rfl | rfl
  · exact h1 ⟨a, ha⟩
  · exact h2 ⟨a, ha⟩
  · exact h4 ⟨a, ha⟩
end Go.Proofs.Ytgdiiicaljidpaa
