/- Regions that draw their order and only read, with calls that make memory: what each operation leaves; steps by kind. -/
import Derived.Test.YtipghcpodhokbaaDoorSteps
set_option linter.unusedSimpArgs false
set_option linter.unusedVariables false
namespace Go.Proofs.YtipghcpodhokbaaDoor
open Go.RowKit WordMath
theorem wanted_plain {o : Oper} {l : List Oper} {a : Act} (hg : o.guard = none) : Region.wanted o (yielded l.toArray a.tmps) = true := by
  unfold Region.wanted; rw [hg]
/-- What an operation leaves: a value; a row; a row and no error. -/
inductive Sp4 where
  | val (v : Value)
  | row (l : List Nat)
  | trow (l : List Nat)
  | any
def Sp4.ok : Sp4 → Value → World → Prop
  | .val u, v, _ => v = u
  | .row l, v, w => ∃ A c, v = .slice A l.length c ∧ l.length ≤ c ∧ Row w A l
  | .trow l, v, w => ∃ A c, v = .tuple #[.slice A l.length c, .int .i64 0] ∧ l.length ≤ c ∧ Row w A l
  | .any, _, _ => True
theorem Sp4.stable {s : Sp4} {v : Value} {w w' : World} (h : s.ok v w) (hb : On w w') : s.ok v w' := by
  cases s with
  | val u => exact h
  | row l => obtain ⟨A, c, e, hc, hr⟩ := h; exact ⟨A, c, e, hc, hr.below hb⟩
  | trow l => obtain ⟨A, c, e, hc, hr⟩ := h; exact ⟨A, c, e, hc, hr.below hb⟩
  | any => trivial
def R4 (S : List Sp4) (i : Nat) (v : Value) (w : World) : Prop := (S.getD i .any).ok v w
theorem steps2_of {P : Program} {T : World → World → Prop} {R : Nat → Value → World → Prop} {l : List Oper} {a0 : Act} {w0 : World} {s : Nat} : ∀ {r : List Oper} {k : Nat}, Steps P T R l a0 w0 k r → Steps2 P T T (fun _ => false) s R l a0 w0 k r
  | [], _, _ => trivial
  | _ :: _, _, ⟨h1, h2⟩ => ⟨fun a w hT _ hA hd => by
      rcases h1 a w hT hA hd with ⟨h, k⟩ | h
      · exact .inl ⟨h, by rw [ite_self]; exact k⟩
      · exact .inr h, steps2_of h2⟩
/-- **Such a region.** -/
theorem wp_region4 {id : Nat} (S : List Sp4) {l : List Oper} {a0 : Act} {w : World} {Q : Exit → Act → World → Prop}
    (hm : Tryd.prog.follows .mixedOrders = true) (hB : relC a0.tmps.size 0 l = true) (hD : l.all (fun o => o.dst.isSome) = true) (hS : Steps Tryd.prog On (R4 S) l a0 w 0 l)
    (h : ∀ (vs : Nat → Value) w', On w w' → (∀ i, i < l.length → (S.getD i .any).ok (vs i) w') → Q .normal (putsFrom l 0 vs a0) w') : (Code.region id l.toArray true).wp Tryd.prog Q a0 w :=
  wp_region_rel2 (T0 := On) (T := On) (R := R4 S) (fun _ => false) 0 hm hB On.refl On.trans (fun h => h) On.trans (fun _ _ _ _ h k => Sp4.stable h k)
    (fun o i ho hd => by
      have := List.all_eq_true.1 hD o (List.mem_of_getElem? ho)
      rw [hd] at this
      cases this) (On.drawn _) (by simp [earlyB]) (steps2_of hS) h
section
variable {S : List Sp4} {l : List Oper} {a0 a : Act} {w0 u : World} {k : Nat} {o : Oper}
/-- It has no guard, or the guard's operation left true. -/
def Go4 (S : List Sp4) (l : List Oper) (o : Oper) : Prop := o.guard = none ∨ ∃ g d b, o.guard = some (g, b) ∧ (l[g]?).bind (·.dst) = some d ∧ o.after.toList.any (fun e => e.on == g && Region.binds .any e) = true ∧ S.getD g .any = .val (.bool b)
theorem Go4.wanted (h : Go4 S l o) (hd : ∀ e ∈ o.after, Region.binds .any e = true → ∀ oj, l[e.on]? = some oj → R4 S e.on (valOf a oj) u) : Region.wanted o (yielded l.toArray a.tmps) = true := by
  rcases h with h | ⟨g, d, b, h1, h2, h3, h4⟩
  · exact wanted_plain h
  · have q := dep hd g d h2 h3
    unfold R4 at q
    rw [h4] at q
    exact (wanted_of (g := g) (want := b) (b := b) (d := d) h1 (by rw [List.getElem?_toArray]; exact h2) q).trans (by cases b <;> rfl)
/-- The guard's operation left the other one: it is not run. -/
theorem st4_skip (g : Nat) (d : Tmp) (b : Bool) (hk : S.getD k .any = .any) (hg : o.guard = some (g, !b)) (h2 : (l[g]?).bind (·.dst) = some d) (h3 : o.after.toList.any (fun e => e.on == g && Region.binds .any e) = true) (h4 : S.getD g .any = .val (.bool b)) :
    StepAt Tryd.prog On (R4 S) l a0 w0 k o := by
  intro a u hT hA hd
  have q := dep hd g d h2 h3
  unfold R4 at q
  rw [h4] at q
  exact .inr ⟨(wanted_of (g := g) (want := !b) (b := b) (d := d) hg (by rw [List.getElem?_toArray]; exact h2) q).trans (by cases b <;> rfl), by unfold R4; rw [hk]; trivial⟩
theorem dep4 (hd : ∀ e ∈ o.after, Region.binds .any e = true → ∀ oj, l[e.on]? = some oj → R4 S e.on (valOf a oj) u) (j : Nat) (dj : Tmp) (hj : (l[j]?).bind (·.dst) = some dj) (hm : o.after.toList.any (fun e => e.on == j && Region.binds .any e) = true) (vj : Value) (hv : S.getD j .any = .val vj) : a.eval (.tmp dj) = vj := by
  have q := dep hd j dj hj hm
  unfold R4 at q
  rw [hv] at q
  exact q
/-- An operation that hands back v and leaves the world as it is. -/
theorem st4_val (v : Value) (hk : S.getD k .any = .val v) (hg : Go4 S l o)
    (step : ∀ a u, On w0 u → Agree l a0 a → (∀ j dj, (l[j]?).bind (·.dst) = some dj → o.after.toList.any (fun e => e.on == j && Region.binds .any e) = true → ∀ vj, S.getD j .any = .val vj → a.eval (.tmp dj) = vj) → (execOp a.eval o).run Tryd.prog u = .ok (.value v) u) :
    StepAt Tryd.prog On (R4 S) l a0 w0 k o := by
  intro a u hT hA hd
  exact .inl ⟨hg.wanted hd, StepOK.run v (step a u hT hA fun j dj hj hm vj hv => dep4 hd j dj hj hm vj hv) (by unfold R4; rw [hk]; rfl) (On.refl _)⟩
/-- A call that hands back v; what was there stays. -/
theorem st4_call (v : Value) (hk : S.getD k .any = .val v) (hg : Go4 S l o) (f : FuncId) (args : Array Value)
    (step : ∀ a u, On w0 u → Agree l a0 a → (∀ j dj, (l[j]?).bind (·.dst) = some dj → o.after.toList.any (fun e => e.on == j && Region.binds .any e) = true → ∀ vj, S.getD j .any = .val vj → a.eval (.tmp dj) = vj) → (execOp a.eval o).run Tryd.prog u = .ok (.enter f args) u ∧ Calls Tryd.prog f args u fun e w' => e = .returned v ∧ Below u.heap.size u w') :
    StepAt Tryd.prog On (R4 S) l a0 w0 k o := by
  intro a u hT hA hd
  obtain ⟨q1, q2⟩ := step a u hT hA fun j dj hj hm vj hv => dep4 hd j dj hj hm vj hv
  refine .inl ⟨hg.wanted hd, StepOK.call f args q1 (q2.mono ?_)⟩
  rintro e w' ⟨rfl, hb⟩
  exact ⟨v, rfl, by unfold R4; rw [hk]; rfl, hb⟩
/-- The same, given a row that an earlier operation left. -/
theorem st4_rcall (v : Value) (hk : S.getD k .any = .val v) (hg : Go4 S l o) (j : Nat) (dj : Tmp) (m : List Nat) (hj : (l[j]?).bind (·.dst) = some dj) (hm : o.after.toList.any (fun e => e.on == j && Region.binds .any e) = true) (hs : S.getD j .any = .row m) (f : FuncId) (args : Value → Array Value)
    (step : ∀ a u A c, On w0 u → Agree l a0 a → (∀ j dj, (l[j]?).bind (·.dst) = some dj → o.after.toList.any (fun e => e.on == j && Region.binds .any e) = true → ∀ vj, S.getD j .any = .val vj → a.eval (.tmp dj) = vj) → a.eval (.tmp dj) = .slice A m.length c → m.length ≤ c → Row u A m →
      (execOp a.eval o).run Tryd.prog u = .ok (.enter f (args (.slice A m.length c))) u ∧ Calls Tryd.prog f (args (.slice A m.length c)) u fun e w' => e = .returned v ∧ Below u.heap.size u w') :
    StepAt Tryd.prog On (R4 S) l a0 w0 k o := by
  intro a u hT hA hd
  have q := dep hd j dj hj hm
  unfold R4 at q
  rw [hs] at q
  obtain ⟨A, c, e, hc, hr⟩ := q
  obtain ⟨q1, q2⟩ := step a u A c hT hA (fun j dj hj hm vj hv => dep4 hd j dj hj hm vj hv) e hc hr
  refine .inl ⟨hg.wanted hd, StepOK.call f _ q1 (q2.mono ?_)⟩
  rintro e w' ⟨rfl, hb⟩
  exact ⟨v, rfl, by unfold R4; rw [hk]; rfl, hb⟩
/-- Calls that hand back a row; a row and no error. -/
theorem st4_row (m : List Nat) (hk : S.getD k .any = .row m) (hg : Go4 S l o) (f : FuncId) (args : Array Value)
    (step : ∀ a u, On w0 u → Agree l a0 a → (∀ j dj, (l[j]?).bind (·.dst) = some dj → o.after.toList.any (fun e => e.on == j && Region.binds .any e) = true → ∀ vj, S.getD j .any = .val vj → a.eval (.tmp dj) = vj) → (execOp a.eval o).run Tryd.prog u = .ok (.enter f args) u ∧ Calls Tryd.prog f args u fun e w' => ∃ A c, e = .returned (.slice A m.length c) ∧ m.length ≤ c ∧ Row w' A m ∧ Below u.heap.size u w') :
    StepAt Tryd.prog On (R4 S) l a0 w0 k o := by
  intro a u hT hA hd
  obtain ⟨q1, q2⟩ := step a u hT hA fun j dj hj hm vj hv => dep4 hd j dj hj hm vj hv
  refine .inl ⟨hg.wanted hd, StepOK.call f args q1 (q2.mono ?_)⟩
  rintro e w' ⟨A, c, rfl, hc, hr, hb⟩
  exact ⟨_, rfl, by unfold R4; rw [hk]; exact ⟨A, c, rfl, hc, hr⟩, hb⟩
theorem st4_trow (m : List Nat) (hk : S.getD k .any = .trow m) (hg : Go4 S l o) (f : FuncId) (args : Array Value)
    (step : ∀ a u, On w0 u → Agree l a0 a → (∀ j dj, (l[j]?).bind (·.dst) = some dj → o.after.toList.any (fun e => e.on == j && Region.binds .any e) = true → ∀ vj, S.getD j .any = .val vj → a.eval (.tmp dj) = vj) → (execOp a.eval o).run Tryd.prog u = .ok (.enter f args) u ∧ Calls Tryd.prog f args u fun e w' => ∃ A c, e = .returned (.tuple #[.slice A m.length c, .int .i64 0]) ∧ m.length ≤ c ∧ Row w' A m ∧ Below u.heap.size u w') :
    StepAt Tryd.prog On (R4 S) l a0 w0 k o := by
  intro a u hT hA hd
  obtain ⟨q1, q2⟩ := step a u hT hA fun j dj hj hm vj hv => dep4 hd j dj hj hm vj hv
  refine .inl ⟨hg.wanted hd, StepOK.call f args q1 (q2.mono ?_)⟩
  rintro e w' ⟨A, c, rfl, hc, hr, hb⟩
  exact ⟨_, rfl, by unfold R4; rw [hk]; exact ⟨A, c, rfl, hc, hr⟩, hb⟩
/-- What operation j left is handed on. -/
theorem st4_move (j : Nat) (dj : Tmp) (hk : S.getD k .any = S.getD j .any) (hg : Go4 S l o) (ho : o.op = .move (.tmp dj)) (hj : (l[j]?).bind (·.dst) = some dj) (hm : o.after.toList.any (fun e => e.on == j && Region.binds .any e) = true) :
    StepAt Tryd.prog On (R4 S) l a0 w0 k o := by
  intro a u hT hA hd
  have q := dep hd j dj hj hm
  refine .inl ⟨hg.wanted hd, StepOK.move _ ho ?_ (On.refl _)⟩
  unfold R4 at q ⊢
  rw [hk]
  exact q
theorem st4_assign (j : Nat) (dj : Tmp) (hk : S.getD k .any = S.getD j .any) (hg : Go4 S l o) (ho : o.op = .assign (.tmp dj)) (hj : (l[j]?).bind (·.dst) = some dj) (hm : o.after.toList.any (fun e => e.on == j && Region.binds .any e) = true) :
    StepAt Tryd.prog On (R4 S) l a0 w0 k o := by
  intro a u hT hA hd
  have q := dep hd j dj hj hm
  refine .inl ⟨hg.wanted hd, StepOK.assign _ ho ?_ (On.refl _)⟩
  unfold R4 at q ⊢
  rw [hk]
  exact q
/-- A tuple's row; its error. -/
theorem st4_ext0 (j : Nat) (dj : Tmp) (m : List Nat) (hk : S.getD k .any = .row m) (hs : S.getD j .any = .trow m) (hg : Go4 S l o) (ho : o.op = .extract (.tmp dj) 0) (hj : (l[j]?).bind (·.dst) = some dj) (hm : o.after.toList.any (fun e => e.on == j && Region.binds .any e) = true) :
    StepAt Tryd.prog On (R4 S) l a0 w0 k o := by
  intro a u hT hA hd
  have q := dep hd j dj hj hm
  unfold R4 at q
  rw [hs] at q
  obtain ⟨A, c, e, hc, hr⟩ := q
  refine .inl ⟨hg.wanted hd, StepOK.run (.slice A m.length c) ?_ (by unfold R4; rw [hk]; exact ⟨A, c, rfl, hc, hr⟩) (On.refl _)⟩
  unfold execOp
  rw [ho]
  simp only [e]
  simp [go_sem, Instr.extract]
theorem st4_ext1 (j : Nat) (dj : Tmp) (m : List Nat) (hk : S.getD k .any = .val (.int .i64 0)) (hs : S.getD j .any = .trow m) (hg : Go4 S l o) (ho : o.op = .extract (.tmp dj) 1) (hj : (l[j]?).bind (·.dst) = some dj) (hm : o.after.toList.any (fun e => e.on == j && Region.binds .any e) = true) :
    StepAt Tryd.prog On (R4 S) l a0 w0 k o := by
  intro a u hT hA hd
  have q := dep hd j dj hj hm
  unfold R4 at q
  rw [hs] at q
  obtain ⟨A, c, e, hc, hr⟩ := q
  refine .inl ⟨hg.wanted hd, StepOK.run (.int .i64 0) ?_ (by unfold R4; rw [hk]; rfl) (On.refl _)⟩
  unfold execOp
  rw [ho]
  simp only [e]
  simp [go_sem, Instr.extract]
theorem run_len {x : Operand} (ho : o.op = .call { callee := .builtin .len, args := #[x], argTypes := #[31] }) (A : Option Addr) (n c : Nat) (h1 : a.eval x = .slice A n c) : (execOp a.eval o).run Tryd.prog u = .ok (.value (.int .i64 (n : Int))) u := by
  unfold execOp
  simp only [ho, resolve, invoke, builtin, Sem.run_bind, Sem.run_pure, Result.andThen_ok, List.map_toArray, List.map_cons, List.map_nil, h1]
  clear h1 ho
  simp [go_sem, Builtin.len_, goInt, run_underlying Tryd.underlying31]
theorem run_iaddr {x : Operand} (i : Nat) (ho : o.op = .indexAddr 31 x (.const (.int .i64 i))) (g off n c : Nat) (h1 : a.eval x = .slice (some ⟨g, off, none⟩) n c) (hi : i < n) : (execOp a.eval o).run Tryd.prog u = .ok (.value (.pointer (some ⟨g, off + i, none⟩))) u := by
  have hi2 : (i : Int) < (n : Int) := by omega
  have e0 : a.eval (.const (.int .i64 (i : Nat))) = .int .i64 (i : Nat) := rfl
  unfold execOp
  rw [ho]
  simp only [h1, e0]
  simp [go_sem, hi2]
theorem run_load64 {x : Operand} (ho : o.op = .load 36 x) (p : Addr) (v : Value) (h1 : a.eval x = .pointer (some p)) (hc : u.cell? p = some v) : (execOp a.eval o).run Tryd.prog u = .ok (.value v) u := by
  unfold execOp
  rw [ho]
  simp only [h1]
  simp [go_sem, hc]
theorem run_pickT {x y z : Operand} (ho : o.op = .pick x y z) (h1 : a.eval x = .bool true) : (execOp a.eval o).run Tryd.prog u = .ok (.value (a.eval y)) u := by
  unfold execOp
  rw [ho]
  simp only [h1]
  simp [go_sem]
theorem run_pickF {x y z : Operand} (ho : o.op = .pick x y z) (h1 : a.eval x = .bool false) : (execOp a.eval o).run Tryd.prog u = .ok (.value (a.eval z)) u := by
  unfold execOp
  rw [ho]
  simp only [h1]
  simp [go_sem]
end
theorem ev_of {a : Act} {d : Tmp} {v : Value} (h : a.eval (.tmp d) = v) : a.tmps[d]?.getD undef = v := by
  rw [← h]
  exact (Array.getD_eq_getD_getElem? ..).symm
/-! ### regions that end in a store -/
section
variable {b s : Nat} {ob : Obj} {E : Nat → Bool} {S : List Sp2} {l : List Oper} {a0 : Act} {w0 : World} {k : Nat} {o : Oper}
theorem dep2 {a : Act} {u : World} (hd : ∀ e ∈ o.after, Region.binds .any e = true → ∀ oj, l[e.on]? = some oj → sps b ob S e.on (valOf a oj) u) (j : Nat) (dj : Tmp) (hj : (l[j]?).bind (·.dst) = some dj) (hm : o.after.toList.any (fun e => e.on == j && Region.binds .any e) = true) (vj : Value) (hv : S.getD j .any = .val vj) : a.eval (.tmp dj) = vj := by
  have q := dep hd j dj hj hm
  unfold sps at q
  rw [hv] at q
  exact q
theorem st2_val (v : Value) (hk : S.getD k .any = .val v) (hg : o.guard = none) (hE : E k = true) (hs : decide (k = s) = false)
    (step : ∀ a u, On w0 u → Agree l a0 a → (∀ j dj, (l[j]?).bind (·.dst) = some dj → o.after.toList.any (fun e => e.on == j && Region.binds .any e) = true → ∀ vj, S.getD j .any = .val vj → a.eval (.tmp dj) = vj) → (execOp a.eval o).run Tryd.prog u = .ok (.value v) u) :
    StepAt2 Tryd.prog On (WrT b ob) E s (sps b ob S) l a0 w0 k o := by
  intro a u hT h0 hA hd
  have hs' : k ≠ s := of_decide_eq_false hs
  rw [hE] at h0
  refine .inl ⟨wanted_plain hg, ?_⟩
  rw [if_neg hs']
  exact StepOK.run v (step a u (h0 rfl) hA fun j dj hj hm vj hv => dep2 hd j dj hj hm vj hv) (by unfold sps; rw [hk]; rfl) (On.refl _)
theorem st2_call (v : Value) (hk : S.getD k .any = .val v) (hg : o.guard = none) (hE : E k = true) (hs : decide (k = s) = false) (f : FuncId) (args : Array Value)
    (step : ∀ a u, On w0 u → Agree l a0 a → (∀ j dj, (l[j]?).bind (·.dst) = some dj → o.after.toList.any (fun e => e.on == j && Region.binds .any e) = true → ∀ vj, S.getD j .any = .val vj → a.eval (.tmp dj) = vj) → (execOp a.eval o).run Tryd.prog u = .ok (.enter f args) u ∧ Calls Tryd.prog f args u fun e w' => e = .returned v ∧ On u w') :
    StepAt2 Tryd.prog On (WrT b ob) E s (sps b ob S) l a0 w0 k o := by
  intro a u hT h0 hA hd
  have hs' : k ≠ s := of_decide_eq_false hs
  rw [hE] at h0
  obtain ⟨q1, q2⟩ := step a u (h0 rfl) hA fun j dj hj hm vj hv => dep2 hd j dj hj hm vj hv
  refine .inl ⟨wanted_plain hg, ?_⟩
  rw [if_neg hs']
  refine StepOK.call f args q1 (q2.mono ?_)
  rintro e w' ⟨rfl, hb⟩
  exact ⟨v, rfl, by unfold sps; rw [hk]; rfl, hb⟩
theorem st2_store (hk : S.getD k .any = .done) (hg : o.guard = none) (hs : k = s)
    (step : ∀ a u, On w0 u → Agree l a0 a → (∀ j dj, (l[j]?).bind (·.dst) = some dj → o.after.toList.any (fun e => e.on == j && Region.binds .any e) = true → ∀ vj, S.getD j .any = .val vj → a.eval (.tmp dj) = vj) → ∃ u', (execOp a.eval o).run Tryd.prog u = .ok .skip u' ∧ Only (fun k => k = b) u u' ∧ u'.heap[b]? = some ob) :
    StepAt2 Tryd.prog On (WrT b ob) E s (sps b ob S) l a0 w0 k o := by
  intro a u hT h0 hA hd
  subst hs
  obtain ⟨u', q1, q2, q3⟩ := step a u (h0 (by simp)) hA fun j dj hj hm vj hv => dep2 hd j dj hj hm vj hv
  refine .inl ⟨wanted_plain hg, ?_⟩
  rw [if_pos rfl]
  exact StepOK.skip q1 (by unfold sps; rw [hk]; exact q3) ⟨q2, fun _ => q3⟩
end
/-- **Such a region.** -/
theorem wp_region5 {id : Nat} (b : Nat) (ob : Obj) (s : Nat) (S : List Sp2) {l : List Oper} {a0 : Act} {w : World} {Q : Exit → Act → World → Prop}
    (hm : Tryd.prog.follows .mixedOrders = true) (hB : relC a0.tmps.size 0 l = true) (hU : spB S 0 l = true) (hEB : earlyB (fun k => decide (k < s)) s l = true) (hS : Steps2 Tryd.prog On (WrT b ob) (fun k => decide (k < s)) s (sps b ob S) l a0 w 0 l)
    (h : ∀ (vs : Nat → Value) w', WrT b ob w w' → (∀ i, i < l.length → sps b ob S i (vs i) w') → Q .normal (putsFrom l 0 vs a0) w') : (Code.region id l.toArray true).wp Tryd.prog Q a0 w :=
  wp_region_rel2 (T0 := On) (T := WrT b ob) (R := sps b ob S) (fun k => decide (k < s)) s hm hB On.refl On.trans WrT.on WrT.trans (fun _ _ _ _ h k => Sp2.stable h k) (sps_un hU) (On.drawn _) hEB hS h
/-- A struct that lies in a block of its own is loaded; one is stored over another one. -/
theorem run_loadS {a : Act} {o : Oper} {u : World} {x : Operand} (ho : o.op = .load 23 x) (g : Nat) (a0 a1 a2 : Value) (hx : a.eval x = .pointer (some ⟨g, 0, none⟩)) (h : u.heap[g]? = some (.cells #[a0, a1, a2] 23 (0, 0))) : (execOp a.eval o).run Tryd.prog u = .ok (.value (.agg #[a0, a1, a2])) u := by
  unfold execOp
  simp only [ho, hx, Instr.loadAt, Instr.sureAddr, Sem.run_bind, Sem.run_pure, Result.andThen_ok, run_loadVar_row (P := Tryd.prog) u g 23 23 _ (0, 0) _ h Tryd.underlying23 rfl (by kernel_rfl)]
theorem run_loadG {a : Act} {o : Oper} {u : World} {x : Operand} (ho : o.op = .load 28 x) (g : Nat) (a0 a1 a2 : Value) (hx : a.eval x = .pointer (some ⟨g, 0, none⟩)) (h : u.heap[g]? = some (.cells #[a0, a1, a2] 28 (0, 0))) : (execOp a.eval o).run Tryd.prog u = .ok (.value (.agg #[a0, a1, a2])) u := by
  unfold execOp
  simp only [ho, hx, Instr.loadAt, Instr.sureAddr, Sem.run_bind, Sem.run_pure, Result.andThen_ok, run_loadVar_row (P := Tryd.prog) u g 28 28 _ (0, 0) _ h Tryd.underlying28 rfl (by kernel_rfl)]
theorem run_loadI {a : Act} {o : Oper} {u : World} {x : Operand} (ho : o.op = .load 68 x) (g : Nat) (a0 a1 a2 : Value) (hx : a.eval x = .pointer (some ⟨g, 0, none⟩)) (h : u.heap[g]? = some (.cells #[a0, a1, a2] 68 (0, 0))) : (execOp a.eval o).run Tryd.prog u = .ok (.value (.agg #[a0, a1, a2])) u := by
  unfold execOp
  simp only [ho, hx, Instr.loadAt, Instr.sureAddr, Sem.run_bind, Sem.run_pure, Result.andThen_ok, run_loadVar_row (P := Tryd.prog) u g 68 68 _ (0, 0) _ h Tryd.underlying68 rfl (by kernel_rfl)]
theorem run_storeO {a : Act} {o : Oper} {u : World} (t t' : TypeId) {x y : Operand} (ho : o.op = .store t x y) (g : Nat) (old cs : Array Value) (hx : a.eval x = .pointer (some ⟨g, 0, none⟩)) (hy : a.eval y = .agg cs) (h : u.heap[g]? = some (.cells old t' (0, 0)))
    (hi : (Tryd.prog.info? t).map (·.size) = some cs.size) (hos : old.size = cs.size) (h1 : cs.all (·.oneCell') = true) : (execOp a.eval o).run Tryd.prog u = .ok .skip (u.setRow g cs) := by
  unfold execOp
  simp only [ho, hx, hy, Instr.storeAt, Instr.sureAddr, Sem.run_bind, Sem.run_pure, Result.andThen_ok, run_storeVar_row (P := Tryd.prog) u g t' t old cs h hi hos h1]
/-- Such a store is one of a region's. -/
theorem storeO_only {u : World} {g : Nat} {old cs : Array Value} {t : TypeId} (h : u.heap[g]? = some (.cells old t (0, 0))) : Only (fun k => k = g) u (u.setRow g cs) ∧ (u.setRow g cs).heap[g]? = some (.cells cs t (0, 0)) :=
  ⟨Only.setRow (F := fun k => k = g) (Only.refl _ _) rfl _, setRow_heap u g _ cs t (0, 0) h⟩
end Go.Proofs.YtipghcpodhokbaaDoor
