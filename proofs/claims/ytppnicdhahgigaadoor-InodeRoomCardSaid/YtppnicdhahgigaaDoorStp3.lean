/- Regions that draw their order and end in stores of records and faults: what an operation leaves; steps by kind. -/
import Derived.Test.YtppnicdhahgigaaDoorRel3
import Derived.Test.YtppnicdhahgigaaDoorIRef2
namespace Go.Proofs.YtppnicdhahgigaaDoor
open Go.RowKit WordMath
/-- Nothing that was there has turned. -/
def On (w w' : World) : Prop := Below w.heap.size w w'
theorem On.refl (w : World) : On w w := Below.refl _ _
theorem On.trans {a b c : World} (h : On a b) (k : On b c) : On a c := Below.trans h (Below.mono k (Below.size h))
theorem On.drawn (w : World) : On w { w with drawn := w.drawn + 1 } := below_drewN (Below.refl _ _) 1
/-- What was there at first is as it was; records and faults stay records and faults, and what is z, or (fk, fn), stays so. -/
structure TT (n0 : Nat) (z : Ino) (fk fn : Int) (A B : World) : Prop where
  old : ∀ m, m ≤ n0 → m ≤ A.heap.size → Below m A B
  ino : ∀ i q, Ib A i q → ∃ q', Ib B i q'
  inoz : ∀ i, Ib A i z → Ib B i z
  flt : ∀ i k n, Fb A i k n → ∃ k' n', Fb B i k' n'
  fltz : ∀ i, Fb A i fk fn → Fb B i fk fn
section
variable {n0 : Nat} {z : Ino} {fk fn : Int} {A B C : World}
theorem TT.trans (h : TT n0 z fk fn A B) (k : TT n0 z fk fn B C) : TT n0 z fk fn A C :=
  ⟨fun m h1 h2 => (h.old m h1 h2).trans (k.old m h1 (Nat.le_trans h2 (h.old m h1 h2).size)), fun i q hq => by obtain ⟨q', hq'⟩ := h.ino i q hq; exact k.ino i q' hq', fun i hq => k.inoz i (h.inoz i hq),
    fun i a b hq => by obtain ⟨a', b', hq'⟩ := h.flt i a b hq; exact k.flt i a' b' hq', fun i hq => k.fltz i (h.fltz i hq)⟩
theorem TT.on (h : On A B) : TT n0 z fk fn A B :=
  ⟨fun _ _ h2 => Below.mono h h2, fun _ q hq => ⟨q, hq.below h hq.lt⟩, fun _ hq => hq.below h hq.lt, fun _ a b hq => ⟨a, b, hq.below h hq.lt⟩, fun _ hq => hq.below h hq.lt⟩
theorem Ib_ne_Fb {w : World} {g : Nat} {q : Ino} {k n : Int} (h : Ib w g q) (h2 : Fb w g k n) : False := by
  unfold Ib at h
  unfold Fb at h2
  rw [h] at h2
  injection h2 with h2
  injection h2 with _ h3
  exact absurd h3 (by decide)
theorem TT.store_ino {g : Nat} {q : Ino} (hg : n0 ≤ g) (h : Ib A g q) : TT n0 z fk fn A (A.setRow g z.c) := by
  have hself : Ib (A.setRow g z.c) g z := setRow_heap A g _ z.c 25 (0, 0) h
  have hoth : ∀ i, i ≠ g → (A.setRow g z.c).heap[i]? = A.heap[i]? := fun i hi => setRow_other A g i _ hi
  refine ⟨fun m h1 _ => below_setRow (Below.refl m A) (by omega) _, fun i q' hq => ?_, fun i hq => ?_, fun i k n hq => ?_, fun i hq => ?_⟩
  · by_cases hi : i = g
    · subst hi; exact ⟨z, hself⟩
    · exact ⟨q', (hoth i hi).trans hq⟩
  · by_cases hi : i = g
    · subst hi; exact hself
    · exact (hoth i hi).trans hq
  · exact ⟨k, n, (hoth i (fun e => by subst e; exact Ib_ne_Fb h hq)).trans hq⟩
  · exact (hoth i (fun e => by subst e; exact Ib_ne_Fb h hq)).trans hq
theorem TT.store_flt {g : Nat} {k n : Int} (hg : n0 ≤ g) (h : Fb A g k n) : TT n0 z fk fn A (A.setRow g #[.int .i64 fk, .int .i64 fn]) := by
  have hself : Fb (A.setRow g #[.int .i64 fk, .int .i64 fn]) g fk fn := setRow_heap A g _ _ 51 (0, 0) h
  have hoth : ∀ i, i ≠ g → (A.setRow g #[.int .i64 fk, .int .i64 fn]).heap[i]? = A.heap[i]? := fun i hi => setRow_other A g i _ hi
  refine ⟨fun m h1 _ => below_setRow (Below.refl m A) (by omega) _, fun i q' hq => ?_, fun i hq => ?_, fun i a b hq => ?_, fun i hq => ?_⟩
  · exact ⟨q', (hoth i (fun e => by subst e; exact Ib_ne_Fb hq h)).trans hq⟩
  · exact (hoth i (fun e => by subst e; exact Ib_ne_Fb hq h)).trans hq
  · by_cases hi : i = g
    · subst hi; exact ⟨fk, fn, hself⟩
    · exact ⟨a, b, (hoth i hi).trans hq⟩
  · by_cases hi : i = g
    · subst hi; exact hself
    · exact (hoth i hi).trans hq
end
/-- What an operation leaves: a value; a row (till the first store); a record's block, a fault's; that of operation p, stored. -/
inductive Sp3 where
  | val (v : Value)
  | row (l : List Nat)
  | ino
  | flt
  | inoDone (p : Nat)
  | fltDone (p : Nat)
  | any
def Sp3.ok1 (n0 : Nat) (z : Ino) (fk fn : Int) (i : Nat) (vs : Nat → Value) (w : World) : Sp3 → Prop
  | .val v => vs i = v
  | .row l => ∃ A c, vs i = .slice A l.length c ∧ l.length ≤ c
  | .ino => ∃ g, vs i = .pointer (some ⟨g, 0, none⟩) ∧ n0 ≤ g ∧ ∃ q, Ib w g q
  | .flt => ∃ g, vs i = .pointer (some ⟨g, 0, none⟩) ∧ n0 ≤ g ∧ ∃ k n, Fb w g k n
  | .inoDone p => ∃ g, vs p = .pointer (some ⟨g, 0, none⟩) ∧ n0 ≤ g ∧ Ib w g z
  | .fltDone p => ∃ g, vs p = .pointer (some ⟨g, 0, none⟩) ∧ n0 ≤ g ∧ Fb w g fk fn
  | .any => True
def Sp3.ok0 (i : Nat) (vs : Nat → Value) (w : World) : Sp3 → Prop
  | .row l => ∃ A c, vs i = .slice A l.length c ∧ l.length ≤ c ∧ Row w A l
  | _ => True
def cgB (S : List Sp3) : Nat → List Oper → Bool
  | _, [] => true
  | k, o :: r => (match S.getD k .any with
    | .inoDone p => o.after.any fun e => Region.binds .any e && e.on == p
    | .fltDone p => o.after.any fun e => Region.binds .any e && e.on == p
    | _ => true) && cgB S (k + 1) r
theorem cgB_at {S : List Sp3} : ∀ {l : List Oper} {k : Nat}, cgB S k l = true → ∀ i o, l[i]? = some o →
    (match S.getD (k + i) .any with
    | .inoDone p => o.after.any fun e => Region.binds .any e && e.on == p
    | .fltDone p => o.after.any fun e => Region.binds .any e && e.on == p
    | _ => true) = true
  | [], _, _, i, o, h => by simp at h
  | x :: r, k, hB, i, o, h => by
    simp only [cgB, Bool.and_eq_true] at hB
    cases i with
    | zero =>
      simp only [List.getElem?_cons_zero, Option.some.injEq] at h
      subst h
      exact hB.1
    | succ i =>
      rw [List.getElem?_cons_succ] at h
      have := cgB_at hB.2 i o h
      rwa [show k + 1 + i = k + (i + 1) by omega] at this
theorem Sp3.cg {n0 : Nat} {z : Ino} {fk fn : Int} {S : List Sp3} {l : List Oper} (hB : cgB S 0 l = true) (i : Nat) (o : Oper) (ho : l[i]? = some o) (vs vs' : Nat → Value) (w : World) (h : vs i = vs' i)
    (hd : ∀ e ∈ o.after, Region.binds .any e = true → vs e.on = vs' e.on) : ((S.getD i .any).ok1 n0 z fk fn i vs w → (S.getD i .any).ok1 n0 z fk fn i vs' w) ∧ ((S.getD i .any).ok0 i vs w → (S.getD i .any).ok0 i vs' w) := by
  have hc := cgB_at hB i o ho
  rw [Nat.zero_add] at hc
  cases hs : S.getD i .any with
  | val v => exact ⟨fun k => by have := k; unfold Sp3.ok1 at this ⊢; rw [← h]; exact this, fun k => k⟩
  | row l => exact ⟨fun k => by unfold Sp3.ok1 at k ⊢; rw [← h]; exact k, fun k => by unfold Sp3.ok0 at k ⊢; rw [← h]; exact k⟩
  | ino => exact ⟨fun k => by unfold Sp3.ok1 at k ⊢; rw [← h]; exact k, fun k => k⟩
  | flt => exact ⟨fun k => by unfold Sp3.ok1 at k ⊢; rw [← h]; exact k, fun k => k⟩
  | any => exact ⟨fun k => k, fun k => k⟩
  | inoDone p =>
    rw [hs] at hc
    obtain ⟨e, he1, he2⟩ := Array.any_eq_true'.1 hc
    simp only [Bool.and_eq_true, beq_iff_eq] at he2
    have := hd e he1 he2.1
    rw [he2.2] at this
    exact ⟨fun k => by obtain ⟨g, e1, hg, hq⟩ := k; exact ⟨g, this.symm.trans e1, hg, hq⟩, fun k => k⟩
  | fltDone p =>
    rw [hs] at hc
    obtain ⟨e, he1, he2⟩ := Array.any_eq_true'.1 hc
    simp only [Bool.and_eq_true, beq_iff_eq] at he2
    have := hd e he1 he2.1
    rw [he2.2] at this
    exact ⟨fun k => by obtain ⟨g, e1, hg, hq⟩ := k; exact ⟨g, this.symm.trans e1, hg, hq⟩, fun k => k⟩
theorem Sp3.st1 {n0 : Nat} {z : Ino} {fk fn : Int} {s : Sp3} {i : Nat} {vs : Nat → Value} {w w' : World} (h : s.ok1 n0 z fk fn i vs w) (k : TT n0 z fk fn w w') : s.ok1 n0 z fk fn i vs w' := by
  cases s with
  | val v => exact h
  | row l => exact h
  | ino => obtain ⟨g, e, hg, q, hq⟩ := h; exact ⟨g, e, hg, k.ino g q hq⟩
  | flt => obtain ⟨g, e, hg, a, b, hq⟩ := h; exact ⟨g, e, hg, k.flt g a b hq⟩
  | inoDone p => obtain ⟨g, e, hg, hq⟩ := h; exact ⟨g, e, hg, k.inoz g hq⟩
  | fltDone p => obtain ⟨g, e, hg, hq⟩ := h; exact ⟨g, e, hg, k.fltz g hq⟩
  | any => trivial
theorem Sp3.st0 {s : Sp3} {i : Nat} {vs : Nat → Value} {w w' : World} (h : s.ok0 i vs w) (k : On w w') : s.ok0 i vs w' := by
  cases s with
  | row l => obtain ⟨A, c, e, hc, hr⟩ := h; exact ⟨A, c, e, hc, hr.below k⟩
  | val v => trivial
  | ino => trivial
  | flt => trivial
  | inoDone p => trivial
  | fltDone p => trivial
  | any => trivial
def R1 (n0 : Nat) (z : Ino) (fk fn : Int) (S : List Sp3) (i : Nat) (vs : Nat → Value) (w : World) : Prop := (S.getD i .any).ok1 n0 z fk fn i vs w
def R0 (S : List Sp3) (i : Nat) (vs : Nat → Value) (w : World) : Prop := (S.getD i .any).ok0 i vs w
/-- **Such a region.** -/
theorem wp_region3 {id : Nat} (z : Ino) (fk fn : Int) (E W : Nat → Bool) (s : Nat) (S : List Sp3) {l : List Oper} {a0 : Act} {w : World} {Q : Exit → Act → World → Prop}
    (hm : Tryd.prog.follows .mixedOrders = true) (hB : relC a0.tmps.size 0 l = true) (hC : cgB S 0 l = true) (hEB : earlyB E s l = true) (hWB : writeB W s l = true) (hWs : W s = true)
    (hS : Steps3 Tryd.prog On (TT w.heap.size z fk fn) E W s (R0 S) (R1 w.heap.size z fk fn S) l a0 w 0 l)
    (h : ∀ (vs : Nat → Value) w', Below w.heap.size w w' → (∀ i, i < l.length → (S.getD i .any).ok1 w.heap.size z fk fn i vs w') → Q .normal (putsFrom l 0 vs a0) w') : (Code.region id l.toArray true).wp Tryd.prog Q a0 w :=
  wp_region_rel3 (T0 := On) (T := TT w.heap.size z fk fn) (R0 := R0 S) (R1 := R1 w.heap.size z fk fn S) E W s hm hB On.trans TT.on TT.trans (fun _ _ _ _ h k => Sp3.st0 h k) (fun _ _ _ _ h k => Sp3.st1 h k)
    (fun i o ho vs vs' w' h1 h2 => Sp3.cg hC i o ho vs vs' w' h1 h2) (On.drawn _) hEB hWB hWs hS (fun vs w' hT hR => h vs w' (hT.old _ (Nat.le_refl _) (Nat.le_refl _)) hR)
/-! ### Steps, by kind -/
section
variable {z : Ino} {fk fn : Int} {E W : Nat → Bool} {s : Nat} {S : List Sp3} {l : List Oper} {a0 : Act} {w0 : World} {k : Nat} {o : Oper}
/-- What operation j left, as this one sees it. -/
theorem dep3 {n0 : Nat} {a : Act} {w : World} (h1 : ∀ e ∈ o.after, Region.binds .any e = true → R1 n0 z fk fn S e.on (vals l a) w) (j : Nat) (d : Tmp) (hj : (l[j]?).bind (·.dst) = some d) (hm : o.after.toList.any (fun e => e.on == j && Region.binds .any e) = true) :
    (S.getD j .any).ok1 n0 z fk fn j (vals l a) w ∧ vals l a j = a.eval (.tmp d) := by
  rw [List.any_eq_true] at hm
  obtain ⟨e, hi, hb⟩ := hm
  rw [Bool.and_eq_true, beq_iff_eq] at hb
  have h := h1 e (by simpa using hi) hb.2
  rw [hb.1] at h
  refine ⟨h, ?_⟩
  unfold vals
  cases hlj : l[j]? with
  | none => rw [hlj] at hj; cases hj
  | some oj =>
    rw [hlj] at hj
    have hd2 : oj.dst = some d := hj
    show valOf a oj = _
    unfold valOf
    rw [hd2]
theorem dep30 {a : Act} {w : World} (h0 : ∀ e ∈ o.after, Region.binds .any e = true → R0 S e.on (vals l a) w) (j : Nat) (d : Tmp) (hj : (l[j]?).bind (·.dst) = some d) (hm : o.after.toList.any (fun e => e.on == j && Region.binds .any e) = true) :
    (S.getD j .any).ok0 j (vals l a) w ∧ vals l a j = a.eval (.tmp d) := by
  rw [List.any_eq_true] at hm
  obtain ⟨e, hi, hb⟩ := hm
  rw [Bool.and_eq_true, beq_iff_eq] at hb
  have h := h0 e (by simpa using hi) hb.2
  rw [hb.1] at h
  refine ⟨h, ?_⟩
  unfold vals
  cases hlj : l[j]? with
  | none => rw [hlj] at hj; cases hj
  | some oj =>
    rw [hlj] at hj
    have hd2 : oj.dst = some d := hj
    show valOf a oj = _
    unfold valOf
    rw [hd2]
theorem wanted_plain {a : Act} (hg : o.guard = none) : Region.wanted o (yielded l.toArray a.tmps) = true := by
  unfold Region.wanted; rw [hg]
theorem upd_self (f : Nat → Value) (k : Nat) (v : Value) : upd f k v k = v := if_pos rfl
theorem upd_ne (f : Nat → Value) {k j : Nat} (v : Value) (h : j ≠ k) : upd f k v j = f j := if_neg h
theorem ov_some {o : Oper} {d : Tmp} (v : Value) (h : o.dst = some d) : ov o v = v := by unfold ov; rw [h]
/-- An operation that hands back v and leaves the world as it is. -/
theorem st3_val (v : Value) (d : Tmp) (hk : S.getD k .any = .val v) (hd : o.dst = some d) (hg : o.guard = none) (hW : W k = false)
    (step : ∀ a u, Below w0.heap.size w0 u → Agree l a0 a → (∀ j dj, (l[j]?).bind (·.dst) = some dj → o.after.toList.any (fun e => e.on == j && Region.binds .any e) = true → ∀ vj, S.getD j .any = .val vj → a.eval (.tmp dj) = vj) → (execOp a.eval o).run Tryd.prog u = .ok (.value v) u) :
    StepAt3 Tryd.prog On (TT w0.heap.size z fk fn) E W s (R0 S) (R1 w0.heap.size z fk fn S) l a0 w0 k o := by
  intro a u hT hT0 hA h1 h0
  refine ⟨wanted_plain hg, StepOK.run v (step a u (hT.old _ (Nat.le_refl _) (Nat.le_refl _)) hA fun j dj hj hm vj hv => ?_) ?_ ?_⟩
  · obtain ⟨e1, e2⟩ := dep3 h1 j dj hj hm
    rw [hv] at e1
    rw [← e2]; exact e1
  · rw [ov_some v hd]
    exact ⟨by unfold R1; rw [hk]; exact upd_self _ _ _, fun _ => by unfold R0; rw [hk]; trivial⟩
  · rw [hW]; exact On.refl _
/-- A call that hands back v; what was there stays. -/
theorem st3_call (v : Value) (d : Tmp) (hk : S.getD k .any = .val v) (hd : o.dst = some d) (hg : o.guard = none) (hW : W k = false) (hE : (E k || decide (k = s)) = true) (f : FuncId) (args : Array Value)
    (step : ∀ a u, On w0 u → Agree l a0 a → (∀ j dj, (l[j]?).bind (·.dst) = some dj → o.after.toList.any (fun e => e.on == j && Region.binds .any e) = true → ∀ vj, S.getD j .any = .val vj → a.eval (.tmp dj) = vj) → (execOp a.eval o).run Tryd.prog u = .ok (.enter f args) u ∧ Calls Tryd.prog f args u fun e w' => e = .returned v ∧ Below u.heap.size u w') :
    StepAt3 Tryd.prog On (TT w0.heap.size z fk fn) E W s (R0 S) (R1 w0.heap.size z fk fn S) l a0 w0 k o := by
  intro a u hT hT0 hA h1 h0
  obtain ⟨q1, q2⟩ := step a u (hT0 hE) hA fun j dj hj hm vj hv => by
    obtain ⟨e1, e2⟩ := dep3 h1 j dj hj hm
    rw [hv] at e1
    rw [← e2]; exact e1
  refine ⟨wanted_plain hg, StepOK.call f args q1 (q2.mono ?_)⟩
  rintro e w' ⟨rfl, hb⟩
  rw [hW]
  exact ⟨v, rfl, ⟨by unfold R1; rw [hk, ov_some v hd]; exact upd_self _ _ _, fun _ => by unfold R0; rw [hk]; trivial⟩, hb⟩
/-- A call that hands back a row of its own. -/
theorem st3_row (m : List Nat) (d : Tmp) (hk : S.getD k .any = .row m) (hd : o.dst = some d) (hg : o.guard = none) (hW : W k = false) (hE : (E k || decide (k = s)) = true) (f : FuncId) (args : Array Value)
    (step : ∀ a u, On w0 u → Agree l a0 a → (∀ j dj, (l[j]?).bind (·.dst) = some dj → o.after.toList.any (fun e => e.on == j && Region.binds .any e) = true → ∀ vj, S.getD j .any = .val vj → a.eval (.tmp dj) = vj) → (execOp a.eval o).run Tryd.prog u = .ok (.enter f args) u ∧ Calls Tryd.prog f args u fun e w' => ∃ A c, e = .returned (.slice A m.length c) ∧ m.length ≤ c ∧ Row w' A m ∧ Below u.heap.size u w') :
    StepAt3 Tryd.prog On (TT w0.heap.size z fk fn) E W s (R0 S) (R1 w0.heap.size z fk fn S) l a0 w0 k o := by
  intro a u hT hT0 hA h1 h0
  obtain ⟨q1, q2⟩ := step a u (hT0 hE) hA fun j dj hj hm vj hv => by
    obtain ⟨e1, e2⟩ := dep3 h1 j dj hj hm
    rw [hv] at e1
    rw [← e2]; exact e1
  refine ⟨wanted_plain hg, StepOK.call f args q1 (q2.mono ?_)⟩
  rintro e w' ⟨A, c, rfl, hc, hr, hb⟩
  rw [hW]
  refine ⟨_, rfl, ⟨?_, fun _ => ?_⟩, hb⟩
  · unfold R1; rw [hk, ov_some _ hd]; exact ⟨A, c, upd_self _ _ _, hc⟩
  · unfold R0; rw [hk, ov_some _ hd]; exact ⟨A, c, upd_self _ _ _, hc, hr⟩
/-- Variables for a record and for a fault. -/
theorem st3_ino (d : Tmp) (hk : S.getD k .any = .ino) (ho : o.op = .alloc 25) (hd : o.dst = some d) (hg : o.guard = none) (hW : W k = false) :
    StepAt3 Tryd.prog On (TT w0.heap.size z fk fn) E W s (R0 S) (R1 w0.heap.size z fk fn S) l a0 w0 k o := by
  intro a u hT hT0 hA h1 h0
  have hsz := (hT.old _ (Nat.le_refl _) (Nat.le_refl _)).size
  refine ⟨wanted_plain hg, StepOK.run (w' := u.alloc (.cells (Ino.c zI) 25)) (.pointer (some ⟨u.heap.size, 0, none⟩)) (by unfold execOp; rw [ho]; kernel_rfl) ?_ ?_⟩
  · rw [ov_some _ hd]
    exact ⟨by unfold R1; rw [hk]; exact ⟨_, upd_self _ _ _, hsz, zI, Ib.new u zI⟩, fun _ => by unfold R0; rw [hk]; trivial⟩
  · rw [hW]; exact (Below.refl _ _).alloc (Nat.le_refl _) _
theorem st3_flt (d : Tmp) (hk : S.getD k .any = .flt) (ho : o.op = .alloc 51) (hd : o.dst = some d) (hg : o.guard = none) (hW : W k = false) :
    StepAt3 Tryd.prog On (TT w0.heap.size z fk fn) E W s (R0 S) (R1 w0.heap.size z fk fn S) l a0 w0 k o := by
  intro a u hT hT0 hA h1 h0
  have hsz := (hT.old _ (Nat.le_refl _) (Nat.le_refl _)).size
  refine ⟨wanted_plain hg, StepOK.run (w' := u.alloc (.cells #[.int .i64 0, .int .i64 0] 51)) (.pointer (some ⟨u.heap.size, 0, none⟩)) (by unfold execOp; rw [ho]; kernel_rfl) ?_ ?_⟩
  · rw [ov_some _ hd]
    exact ⟨by unfold R1; rw [hk]; exact ⟨_, upd_self _ _ _, hsz, 0, 0, heap_alloc_new u _⟩, fun _ => by unfold R0; rw [hk]; trivial⟩
  · rw [hW]; exact (Below.refl _ _).alloc (Nat.le_refl _) _
/-- They are stored. -/
theorem st3_sino (p q : Nat) (dp dq : Tmp) (hk : S.getD k .any = .inoDone p) (ho : o.op = .store 25 (.tmp dp) (.tmp dq)) (_hd : o.dst = none) (hg : o.guard = none) (hW : W k = true) (hkp : p ≠ k)
    (hp : S.getD p .any = .ino) (hjp : (l[p]?).bind (·.dst) = some dp) (hmp : o.after.toList.any (fun e => e.on == p && Region.binds .any e) = true)
    (hq : S.getD q .any = .val z.v) (hjq : (l[q]?).bind (·.dst) = some dq) (hmq : o.after.toList.any (fun e => e.on == q && Region.binds .any e) = true) :
    StepAt3 Tryd.prog On (TT w0.heap.size z fk fn) E W s (R0 S) (R1 w0.heap.size z fk fn S) l a0 w0 k o := by
  intro a u hT hT0 hA h1 h0
  obtain ⟨p1, p2⟩ := dep3 h1 p dp hjp hmp
  rw [hp] at p1
  obtain ⟨g, eg, hgn, r, hr⟩ := p1
  obtain ⟨q1, q2⟩ := dep3 h1 q dq hjq hmq
  rw [hq] at q1
  refine ⟨wanted_plain hg, ?_⟩
  intro K Q hK
  refine wp_store_row 25 (.tmp dp) (.tmp dq) ho g z.c (p2.symm.trans eg) (q2.symm.trans q1) 25 _ hr (by kernel_rfl) rfl (Ino.one _) ?_
  refine hK undef _ ⟨?_, fun h => by rw [hW] at h; cases h⟩ (by rw [hW]; exact TT.store_ino hgn hr)
  unfold R1
  rw [hk]
  exact ⟨g, (upd_ne _ _ hkp).trans eg, hgn, setRow_heap u g _ z.c 25 (0, 0) hr⟩
theorem st3_sflt (p q : Nat) (dp dq : Tmp) (hk : S.getD k .any = .fltDone p) (ho : o.op = .store 51 (.tmp dp) (.tmp dq)) (_hd : o.dst = none) (hg : o.guard = none) (hW : W k = true) (hkp : p ≠ k)
    (hp : S.getD p .any = .flt) (hjp : (l[p]?).bind (·.dst) = some dp) (hmp : o.after.toList.any (fun e => e.on == p && Region.binds .any e) = true)
    (hq : S.getD q .any = .val (.agg #[.int .i64 fk, .int .i64 fn])) (hjq : (l[q]?).bind (·.dst) = some dq) (hmq : o.after.toList.any (fun e => e.on == q && Region.binds .any e) = true) :
    StepAt3 Tryd.prog On (TT w0.heap.size z fk fn) E W s (R0 S) (R1 w0.heap.size z fk fn S) l a0 w0 k o := by
  intro a u hT hT0 hA h1 h0
  obtain ⟨p1, p2⟩ := dep3 h1 p dp hjp hmp
  rw [hp] at p1
  obtain ⟨g, eg, hgn, r1, r2, hr⟩ := p1
  obtain ⟨q1, q2⟩ := dep3 h1 q dq hjq hmq
  rw [hq] at q1
  refine ⟨wanted_plain hg, ?_⟩
  intro K Q hK
  refine wp_store_row 51 (.tmp dp) (.tmp dq) ho g #[.int .i64 fk, .int .i64 fn] (p2.symm.trans eg) (q2.symm.trans q1) 51 _ hr (by kernel_rfl) rfl (by rw [← Array.all_toList]; rfl) ?_
  refine hK undef _ ⟨?_, fun h => by rw [hW] at h; cases h⟩ (by rw [hW]; exact TT.store_flt hgn hr)
  unfold R1
  rw [hk]
  exact ⟨g, (upd_ne _ _ hkp).trans eg, hgn, setRow_heap u g _ _ 51 (0, 0) hr⟩
end
end Go.Proofs.YtppnicdhahgigaaDoor
