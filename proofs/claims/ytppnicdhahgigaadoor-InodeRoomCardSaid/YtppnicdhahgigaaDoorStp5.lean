/- Regions that draw and only read: steps, by kind. -/
import Derived.Test.YtppnicdhahgigaaDoorITold
import Derived.Test.YtppnicdhahgigaaDoorInoMath4
namespace Go.Proofs.YtppnicdhahgigaaDoor
open Go.RowKit WordMath SumMath
section
variable {S : List Sp4} {l : List Oper} {a0 a : Act} {w0 u : World} {k : Nat} {o : Oper}
/-- It has no guard, or the guard's operation left true. -/
def Go4 (S : List Sp4) (l : List Oper) (o : Oper) : Prop := o.guard = none ∨ ∃ g d b, o.guard = some (g, b) ∧ (l[g]?).bind (·.dst) = some d ∧ o.after.toList.any (fun e => e.on == g && Region.binds .any e) = true ∧ S.getD g .any = .val (.bool b)
theorem Go4.wanted (h : Go4 S l o) (hd : ∀ e ∈ o.after, Region.binds .any e = true → ∀ oj, l[e.on]? = some oj → R4 S e.on (valOf a oj) u) : Region.wanted o (yielded l.toArray a.tmps) = true := by
  rcases h with h | ⟨g, d, b, h1, h2, h3, h4⟩
  · exact wanted_plain h
  · have q := dep hd g d h2 h3
    unfold R4 at q
    rw [h4] at q
    exact (wanted_of (g := g) (want := b) (b := b) (d := d) h1 (by rw [List.getElem?_toArray]; exact h2) q).trans (by cases b <;> rfl)
/-- The guard's operation left the other one: it is not run. -/
theorem st4_skip (g : Nat) (d : Tmp) (b : Bool) (hk : S.getD k .any = .any) (hg : o.guard = some (g, !b)) (h2 : (l[g]?).bind (·.dst) = some d) (h3 : o.after.toList.any (fun e => e.on == g && Region.binds .any e) = true) (h4 : S.getD g .any = .val (.bool b)) :
    StepAt Tryd.prog On (R4 S) l a0 w0 k o := by
  intro a u hT hA hd
  have q := dep hd g d h2 h3
  unfold R4 at q
  rw [h4] at q
  exact .inr ⟨(wanted_of (g := g) (want := !b) (b := b) (d := d) hg (by rw [List.getElem?_toArray]; exact h2) q).trans (by cases b <;> rfl), by unfold R4; rw [hk]; trivial⟩
theorem dep4 (hd : ∀ e ∈ o.after, Region.binds .any e = true → ∀ oj, l[e.on]? = some oj → R4 S e.on (valOf a oj) u) (j : Nat) (dj : Tmp) (hj : (l[j]?).bind (·.dst) = some dj) (hm : o.after.toList.any (fun e => e.on == j && Region.binds .any e) = true) (vj : Value) (hv : S.getD j .any = .val vj) : a.eval (.tmp dj) = vj := by
  have q := dep hd j dj hj hm
  unfold R4 at q
  rw [hv] at q
  exact q
/-- An operation that hands back v and leaves the world as it is. -/
theorem st4_val (v : Value) (hk : S.getD k .any = .val v) (hg : Go4 S l o)
    (step : ∀ a u, On w0 u → Agree l a0 a → (∀ j dj, (l[j]?).bind (·.dst) = some dj → o.after.toList.any (fun e => e.on == j && Region.binds .any e) = true → ∀ vj, S.getD j .any = .val vj → a.eval (.tmp dj) = vj) → (execOp a.eval o).run Tryd.prog u = .ok (.value v) u) :
    StepAt Tryd.prog On (R4 S) l a0 w0 k o := by
  intro a u hT hA hd
  exact .inl ⟨hg.wanted hd, StepOK.run v (step a u hT hA fun j dj hj hm vj hv => dep4 hd j dj hj hm vj hv) (by unfold R4; rw [hk]; rfl) (On.refl _)⟩
/-- A call that hands back v; what was there stays. -/
theorem st4_call (v : Value) (hk : S.getD k .any = .val v) (hg : Go4 S l o) (f : FuncId) (args : Array Value)
    (step : ∀ a u, On w0 u → Agree l a0 a → (∀ j dj, (l[j]?).bind (·.dst) = some dj → o.after.toList.any (fun e => e.on == j && Region.binds .any e) = true → ∀ vj, S.getD j .any = .val vj → a.eval (.tmp dj) = vj) → (execOp a.eval o).run Tryd.prog u = .ok (.enter f args) u ∧ Calls Tryd.prog f args u fun e w' => e = .returned v ∧ Below u.heap.size u w') :
    StepAt Tryd.prog On (R4 S) l a0 w0 k o := by
  intro a u hT hA hd
  obtain ⟨q1, q2⟩ := step a u hT hA fun j dj hj hm vj hv => dep4 hd j dj hj hm vj hv
  refine .inl ⟨hg.wanted hd, StepOK.call f args q1 (q2.mono ?_)⟩
  rintro e w' ⟨rfl, hb⟩
  exact ⟨v, rfl, by unfold R4; rw [hk]; rfl, hb⟩
/-- The same, given a row that an earlier operation left. -/
theorem st4_rcall (v : Value) (hk : S.getD k .any = .val v) (hg : Go4 S l o) (j : Nat) (dj : Tmp) (m : List Nat) (hj : (l[j]?).bind (·.dst) = some dj) (hm : o.after.toList.any (fun e => e.on == j && Region.binds .any e) = true) (hs : S.getD j .any = .row m) (f : FuncId) (args : Value → Array Value)
    (step : ∀ a u A c, On w0 u → Agree l a0 a → (∀ j dj, (l[j]?).bind (·.dst) = some dj → o.after.toList.any (fun e => e.on == j && Region.binds .any e) = true → ∀ vj, S.getD j .any = .val vj → a.eval (.tmp dj) = vj) → a.eval (.tmp dj) = .slice A m.length c → m.length ≤ c → Row u A m →
      (execOp a.eval o).run Tryd.prog u = .ok (.enter f (args (.slice A m.length c))) u ∧ Calls Tryd.prog f (args (.slice A m.length c)) u fun e w' => e = .returned v ∧ Below u.heap.size u w') :
    StepAt Tryd.prog On (R4 S) l a0 w0 k o := by
  intro a u hT hA hd
  have q := dep hd j dj hj hm
  unfold R4 at q
  rw [hs] at q
  obtain ⟨A, c, e, hc, hr⟩ := q
  obtain ⟨q1, q2⟩ := step a u A c hT hA (fun j dj hj hm vj hv => dep4 hd j dj hj hm vj hv) e hc hr
  refine .inl ⟨hg.wanted hd, StepOK.call f _ q1 (q2.mono ?_)⟩
  rintro e w' ⟨rfl, hb⟩
  exact ⟨v, rfl, by unfold R4; rw [hk]; rfl, hb⟩
/-- Calls that hand back a row; a row and no error. -/
theorem st4_row (m : List Nat) (hk : S.getD k .any = .row m) (hg : Go4 S l o) (f : FuncId) (args : Array Value)
    (step : ∀ a u, On w0 u → Agree l a0 a → (∀ j dj, (l[j]?).bind (·.dst) = some dj → o.after.toList.any (fun e => e.on == j && Region.binds .any e) = true → ∀ vj, S.getD j .any = .val vj → a.eval (.tmp dj) = vj) → (execOp a.eval o).run Tryd.prog u = .ok (.enter f args) u ∧ Calls Tryd.prog f args u fun e w' => ∃ A c, e = .returned (.slice A m.length c) ∧ m.length ≤ c ∧ Row w' A m ∧ Below u.heap.size u w') :
    StepAt Tryd.prog On (R4 S) l a0 w0 k o := by
  intro a u hT hA hd
  obtain ⟨q1, q2⟩ := step a u hT hA fun j dj hj hm vj hv => dep4 hd j dj hj hm vj hv
  refine .inl ⟨hg.wanted hd, StepOK.call f args q1 (q2.mono ?_)⟩
  rintro e w' ⟨A, c, rfl, hc, hr, hb⟩
  exact ⟨_, rfl, by unfold R4; rw [hk]; exact ⟨A, c, rfl, hc, hr⟩, hb⟩
theorem st4_trow (m : List Nat) (hk : S.getD k .any = .trow m) (hg : Go4 S l o) (f : FuncId) (args : Array Value)
    (step : ∀ a u, On w0 u → Agree l a0 a → (∀ j dj, (l[j]?).bind (·.dst) = some dj → o.after.toList.any (fun e => e.on == j && Region.binds .any e) = true → ∀ vj, S.getD j .any = .val vj → a.eval (.tmp dj) = vj) → (execOp a.eval o).run Tryd.prog u = .ok (.enter f args) u ∧ Calls Tryd.prog f args u fun e w' => ∃ A c, e = .returned (.tuple #[.slice A m.length c, .int .i64 0]) ∧ m.length ≤ c ∧ Row w' A m ∧ Below u.heap.size u w') :
    StepAt Tryd.prog On (R4 S) l a0 w0 k o := by
  intro a u hT hA hd
  obtain ⟨q1, q2⟩ := step a u hT hA fun j dj hj hm vj hv => dep4 hd j dj hj hm vj hv
  refine .inl ⟨hg.wanted hd, StepOK.call f args q1 (q2.mono ?_)⟩
  rintro e w' ⟨A, c, rfl, hc, hr, hb⟩
  exact ⟨_, rfl, by unfold R4; rw [hk]; exact ⟨A, c, rfl, hc, hr⟩, hb⟩
/-- What operation j left is handed on. -/
theorem st4_move (j : Nat) (dj : Tmp) (hk : S.getD k .any = S.getD j .any) (hg : Go4 S l o) (ho : o.op = .move (.tmp dj)) (hj : (l[j]?).bind (·.dst) = some dj) (hm : o.after.toList.any (fun e => e.on == j && Region.binds .any e) = true) :
    StepAt Tryd.prog On (R4 S) l a0 w0 k o := by
  intro a u hT hA hd
  have q := dep hd j dj hj hm
  refine .inl ⟨hg.wanted hd, StepOK.move _ ho ?_ (On.refl _)⟩
  unfold R4 at q ⊢
  rw [hk]
  exact q
theorem st4_assign (j : Nat) (dj : Tmp) (hk : S.getD k .any = S.getD j .any) (hg : Go4 S l o) (ho : o.op = .assign (.tmp dj)) (hj : (l[j]?).bind (·.dst) = some dj) (hm : o.after.toList.any (fun e => e.on == j && Region.binds .any e) = true) :
    StepAt Tryd.prog On (R4 S) l a0 w0 k o := by
  intro a u hT hA hd
  have q := dep hd j dj hj hm
  refine .inl ⟨hg.wanted hd, StepOK.assign _ ho ?_ (On.refl _)⟩
  unfold R4 at q ⊢
  rw [hk]
  exact q
/-- A tuple's row; its error. -/
theorem st4_ext0 (j : Nat) (dj : Tmp) (m : List Nat) (hk : S.getD k .any = .row m) (hs : S.getD j .any = .trow m) (hg : Go4 S l o) (ho : o.op = .extract (.tmp dj) 0) (hj : (l[j]?).bind (·.dst) = some dj) (hm : o.after.toList.any (fun e => e.on == j && Region.binds .any e) = true) :
    StepAt Tryd.prog On (R4 S) l a0 w0 k o := by
  intro a u hT hA hd
  have q := dep hd j dj hj hm
  unfold R4 at q
  rw [hs] at q
  obtain ⟨A, c, e, hc, hr⟩ := q
  refine .inl ⟨hg.wanted hd, StepOK.run (.slice A m.length c) ?_ (by unfold R4; rw [hk]; exact ⟨A, c, rfl, hc, hr⟩) (On.refl _)⟩
  unfold execOp
  rw [ho]
  simp only [e]
  simp [go_sem, Instr.extract]
theorem st4_ext1 (j : Nat) (dj : Tmp) (m : List Nat) (hk : S.getD k .any = .val (.int .i64 0)) (hs : S.getD j .any = .trow m) (hg : Go4 S l o) (ho : o.op = .extract (.tmp dj) 1) (hj : (l[j]?).bind (·.dst) = some dj) (hm : o.after.toList.any (fun e => e.on == j && Region.binds .any e) = true) :
    StepAt Tryd.prog On (R4 S) l a0 w0 k o := by
  intro a u hT hA hd
  have q := dep hd j dj hj hm
  unfold R4 at q
  rw [hs] at q
  obtain ⟨A, c, e, hc, hr⟩ := q
  refine .inl ⟨hg.wanted hd, StepOK.run (.int .i64 0) ?_ (by unfold R4; rw [hk]; rfl) (On.refl _)⟩
  unfold execOp
  rw [ho]
  simp only [e]
  simp [go_sem, Instr.extract]
theorem run_len {x : Operand} (ho : o.op = .call { callee := .builtin .len, args := #[x], argTypes := #[28] }) (A : Option Addr) (n c : Nat) (h1 : a.eval x = .slice A n c) : (execOp a.eval o).run Tryd.prog u = .ok (.value (.int .i64 (n : Int))) u := by
  unfold execOp
  simp only [ho, resolve, invoke, builtin, Sem.run_bind, Sem.run_pure, Result.andThen_ok, List.map_toArray, List.map_cons, List.map_nil, h1]
  clear h1 ho
  simp [go_sem, Builtin.len_, goInt, run_underlying Tryd.underlying28]
theorem run_iaddr {x : Operand} (i : Nat) (ho : o.op = .indexAddr 28 x (.const (.int .i64 i))) (g off n c : Nat) (h1 : a.eval x = .slice (some ⟨g, off, none⟩) n c) (hi : i < n) : (execOp a.eval o).run Tryd.prog u = .ok (.value (.pointer (some ⟨g, off + i, none⟩))) u := by
  have hi2 : (i : Int) < (n : Int) := by omega
  have e0 : a.eval (.const (.int .i64 (i : Nat))) = .int .i64 (i : Nat) := rfl
  unfold execOp
  rw [ho]
  simp only [h1, e0]
  simp [go_sem, hi2]
theorem run_load64 {x : Operand} (ho : o.op = .load 44 x) (p : Addr) (v : Value) (h1 : a.eval x = .pointer (some p)) (hc : u.cell? p = some v) : (execOp a.eval o).run Tryd.prog u = .ok (.value v) u := by
  unfold execOp
  rw [ho]
  simp only [h1]
  simp [go_sem, hc]
theorem run_pickT {x y z : Operand} (ho : o.op = .pick x y z) (h1 : a.eval x = .bool true) : (execOp a.eval o).run Tryd.prog u = .ok (.value (a.eval y)) u := by
  unfold execOp
  rw [ho]
  simp only [h1]
  simp [go_sem]
theorem run_pickF {x y z : Operand} (ho : o.op = .pick x y z) (h1 : a.eval x = .bool false) : (execOp a.eval o).run Tryd.prog u = .ok (.value (a.eval z)) u := by
  unfold execOp
  rw [ho]
  simp only [h1]
  simp [go_sem]
theorem run_slice7 {x : Operand} (ho : o.op = .slice 28 x none (some (.const (.int .i64 7))) none) (A : Option Addr) (n c : Nat) (h1 : a.eval x = .slice A n c) (hc : 7 ≤ c) : (execOp a.eval o).run Tryd.prog u = .ok (.value (.slice A 7 c)) u := by
  have hc2 : (7 : Int) ≤ (c : Int) := by omega
  have e0 : a.eval (.const (.int .i64 7)) = .int .i64 7 := rfl
  unfold execOp
  rw [ho]
  simp only [Option.map_some, Option.map_none, h1, e0]
  simp [go_sem, hc2]
theorem run_eqI {x y : Operand} {t : TypeId} (ho : o.op = .binOp .eql 25 x y t) (q : Ino) (h1 : a.eval x = q.v) (h2 : a.eval y = q.v) : (execOp a.eval o).run Tryd.prog u = .ok (.value (.bool true)) u := by
  have e4 := fun w => eq4_in 9997 q.H0 q.H1 q.H2 q.H3 q.H0 q.H1 q.H2 q.H3 w
  unfold execOp
  rw [ho]
  simp only [h1, h2]
  clear h1 h2 ho
  simp [go_sem, e4]
end
end Go.Proofs.YtppnicdhahgigaaDoor
