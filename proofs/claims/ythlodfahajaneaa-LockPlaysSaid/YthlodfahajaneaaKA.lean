/- A region that draws its order and only reads, with calls that make memory of their own, guarded or not: what each operation leaves (rows of ints among it); steps by kind. -/
import Derived.Test.YthlodfahajaneaaSteps
import Derived.Test.YthlodfahajaneaaKv
set_option linter.unusedSimpArgs false
set_option linter.unusedVariables false
namespace Go.Proofs.Ythlodfahajaneaa
open Go.RowKit
theorem wanted_plain {o : Oper} {l : List Oper} {a : Act} (hg : o.guard = none) : Region.wanted o (yielded l.toArray a.tmps) = true := by
  unfold Region.wanted; rw [hg]
/-- What an operation leaves: a value; a row of ints that reads as q; nothing is said. -/
inductive Sp4 where
  | val (v : Value)
  | row (q : List Int)
  | any
def Sp4.ok : Sp4 → Value → World → Prop
  | .val u, v, _ => v = u
  | .row q, v, w => RowAt q v w
  | .any, _, _ => True
theorem Sp4.stable {s : Sp4} {v : Value} {w w' : World} (h : s.ok v w) (hb : On w w') : s.ok v w' := by
  cases s with
  | val u => exact h
  | row q => exact RowAt.below h hb
  | any => trivial
def R4 (S : List Sp4) (i : Nat) (v : Value) (w : World) : Prop := (S.getD i .any).ok v w
theorem steps2_of {P : Program} {T : World → World → Prop} {R : Nat → Value → World → Prop} {l : List Oper} {a0 : Act} {w0 : World} {s : Nat} : ∀ {r : List Oper} {k : Nat}, Steps P T R l a0 w0 k r → Steps2 P T T (fun _ => false) s R l a0 w0 k r
  | [], _, _ => trivial
  | _ :: _, _, ⟨h1, h2⟩ => ⟨fun a w hT _ hA hd => by
      rcases h1 a w hT hA hd with ⟨h, k⟩ | h
      · exact .inl ⟨h, by rw [ite_self]; exact k⟩
      · exact .inr h, steps2_of h2⟩
/-- **Such a region.** -/
theorem wp_region4 {id : Nat} (S : List Sp4) {l : List Oper} {a0 : Act} {w : World} {Q : Exit → Act → World → Prop}
    (hm : Try.prog.follows .mixedOrders = true) (hB : relC a0.tmps.size 0 l = true) (hD : l.all (fun o => o.dst.isSome) = true) (hS : Steps Try.prog On (R4 S) l a0 w 0 l)
    (h : ∀ (vs : Nat → Value) w', On w w' → (∀ i, i < l.length → (S.getD i .any).ok (vs i) w') → Q .normal (putsFrom l 0 vs a0) w') : (Code.region id l.toArray true).wp Try.prog Q a0 w :=
  wp_region_rel2 (T0 := On) (T := On) (R := R4 S) (fun _ => false) 0 hm hB On.refl On.trans (fun h => h) On.trans (fun _ _ _ _ h k => Sp4.stable h k)
    (fun o i ho hd => by
      have := List.all_eq_true.1 hD o (List.mem_of_getElem? ho)
      rw [hd] at this
      cases this) (On.drawn _) (by simp [earlyB]) (steps2_of hS) h
section
variable {S : List Sp4} {l : List Oper} {a0 a : Act} {w0 u : World} {k : Nat} {o : Oper}
/-- It has no guard, or the guard's operation left true. -/
def Go4 (S : List Sp4) (l : List Oper) (o : Oper) : Prop := o.guard = none ∨ ∃ g d b, o.guard = some (g, b) ∧ (l[g]?).bind (·.dst) = some d ∧ o.after.toList.any (fun e => e.on == g && Region.binds .any e) = true ∧ S.getD g .any = .val (.bool b)
theorem Go4.wanted (h : Go4 S l o) (hd : ∀ e ∈ o.after, Region.binds .any e = true → ∀ oj, l[e.on]? = some oj → R4 S e.on (valOf a oj) u) : Region.wanted o (yielded l.toArray a.tmps) = true := by
  rcases h with h | ⟨g, d, b, h1, h2, h3, h4⟩
  · exact wanted_plain h
  · have q := dep hd g d h2 h3
    unfold R4 at q
    rw [h4] at q
    exact (wanted_of (g := g) (want := b) (b := b) (d := d) h1 (by rw [List.getElem?_toArray]; exact h2) q).trans (by cases b <;> rfl)
/-- The guard's operation left the other one: it is not run. -/
theorem st4_skip (g : Nat) (d : Tmp) (b : Bool) (hk : S.getD k .any = .any) (hg : o.guard = some (g, !b)) (h2 : (l[g]?).bind (·.dst) = some d) (h3 : o.after.toList.any (fun e => e.on == g && Region.binds .any e) = true) (h4 : S.getD g .any = .val (.bool b)) :
    StepAt Try.prog On (R4 S) l a0 w0 k o := by
  intro a u hT hA hd
  have q := dep hd g d h2 h3
  unfold R4 at q
  rw [h4] at q
  exact .inr ⟨(wanted_of (g := g) (want := !b) (b := b) (d := d) hg (by rw [List.getElem?_toArray]; exact h2) q).trans (by cases b <;> rfl), by unfold R4; rw [hk]; trivial⟩
theorem dep4 (hd : ∀ e ∈ o.after, Region.binds .any e = true → ∀ oj, l[e.on]? = some oj → R4 S e.on (valOf a oj) u) (j : Nat) (dj : Tmp) (hj : (l[j]?).bind (·.dst) = some dj) (hm : o.after.toList.any (fun e => e.on == j && Region.binds .any e) = true) (sp : Sp4) (hv : S.getD j .any = sp) : sp.ok (a.eval (.tmp dj)) u := by
  have q := dep hd j dj hj hm
  unfold R4 at q
  rw [hv] at q
  exact q
/-- What earlier operations left, as this one sees it. -/
abbrev Deps (S : List Sp4) (l : List Oper) (o : Oper) (a : Act) (u : World) : Prop := ∀ j dj, (l[j]?).bind (·.dst) = some dj → o.after.toList.any (fun e => e.on == j && Region.binds .any e) = true → ∀ sp, S.getD j .any = sp → sp.ok (a.eval (.tmp dj)) u
/-- An operation that hands back v and leaves the world as it is. -/
theorem st4_val (v : Value) (hk : S.getD k .any = .val v) (hg : Go4 S l o)
    (step : ∀ a u, On w0 u → Agree l a0 a → (∀ j dj, (l[j]?).bind (·.dst) = some dj → o.after.toList.any (fun e => e.on == j && Region.binds .any e) = true → ∀ vj, S.getD j .any = .val vj → a.eval (.tmp dj) = vj) → (execOp a.eval o).run Try.prog u = .ok (.value v) u) :
    StepAt Try.prog On (R4 S) l a0 w0 k o := by
  intro a u hT hA hd
  exact .inl ⟨hg.wanted hd, StepOK.run v (step a u hT hA fun j dj hj hm vj hv => dep4 hd j dj hj hm _ hv) (by unfold R4; rw [hk]; rfl) (On.refl _)⟩
theorem st4_valD (v : Value) (hk : S.getD k .any = .val v) (hg : Go4 S l o)
    (step : ∀ a u, On w0 u → Agree l a0 a → Deps S l o a u → (execOp a.eval o).run Try.prog u = .ok (.value v) u) :
    StepAt Try.prog On (R4 S) l a0 w0 k o := by
  intro a u hT hA hd
  exact .inl ⟨hg.wanted hd, StepOK.run v (step a u hT hA fun j dj hj hm sp hv => dep4 hd j dj hj hm sp hv) (by unfold R4; rw [hk]; rfl) (On.refl _)⟩
/-- A call: it is handed args, and leaves what is said. -/
theorem st4_call (sp : Sp4) (hk : S.getD k .any = sp) (hg : Go4 S l o) (f : FuncId)
    (step : ∀ a u, On w0 u → Agree l a0 a → Deps S l o a u → ∃ args, (execOp a.eval o).run Try.prog u = .ok (.enter f args) u ∧ Calls Try.prog f args u fun e w' => ∃ v, e = .returned v ∧ sp.ok v w' ∧ Below u.heap.size u w') :
    StepAt Try.prog On (R4 S) l a0 w0 k o := by
  intro a u hT hA hd
  obtain ⟨args, q1, q2⟩ := step a u hT hA fun j dj hj hm sp hv => dep4 hd j dj hj hm sp hv
  refine .inl ⟨hg.wanted hd, StepOK.call f args q1 (q2.mono ?_)⟩
  rintro e w' ⟨v, rfl, hs, hb⟩
  exact ⟨v, rfl, by unfold R4; rw [hk]; exact hs, hb⟩
/-- What operation j left is handed on. -/
theorem st4_move (j : Nat) (dj : Tmp) (hk : S.getD k .any = S.getD j .any) (hg : Go4 S l o) (ho : o.op = .move (.tmp dj)) (hj : (l[j]?).bind (·.dst) = some dj) (hm : o.after.toList.any (fun e => e.on == j && Region.binds .any e) = true) :
    StepAt Try.prog On (R4 S) l a0 w0 k o := by
  intro a u hT hA hd
  have q := dep hd j dj hj hm
  refine .inl ⟨hg.wanted hd, StepOK.move _ ho ?_ (On.refl _)⟩
  unfold R4 at q ⊢
  rw [hk]
  exact q
theorem st4_assign (j : Nat) (dj : Tmp) (hk : S.getD k .any = S.getD j .any) (hg : Go4 S l o) (ho : o.op = .assign (.tmp dj)) (hj : (l[j]?).bind (·.dst) = some dj) (hm : o.after.toList.any (fun e => e.on == j && Region.binds .any e) = true) :
    StepAt Try.prog On (R4 S) l a0 w0 k o := by
  intro a u hT hA hd
  have q := dep hd j dj hj hm
  refine .inl ⟨hg.wanted hd, StepOK.assign _ ho ?_ (On.refl _)⟩
  unfold R4 at q ⊢
  rw [hk]
  exact q
theorem run_pickT {x y z : Operand} (ho : o.op = .pick x y z) (h1 : a.eval x = .bool true) : (execOp a.eval o).run Try.prog u = .ok (.value (a.eval y)) u := by
  unfold execOp
  rw [ho]
  simp only [h1]
  simp [go_sem]
theorem run_pickF {x y z : Operand} (ho : o.op = .pick x y z) (h1 : a.eval x = .bool false) : (execOp a.eval o).run Try.prog u = .ok (.value (a.eval z)) u := by
  unfold execOp
  rw [ho]
  simp only [h1]
  simp [go_sem]
theorem add_zero (a : Addr) : a.add 0 = a := by unfold Addr.add; simp
theorem run_lenI {x : Operand} (ho : o.op = .call { callee := .builtin .len, args := #[x], argTypes := #[40] }) (A : Option Addr) (n c : Nat) (h1 : a.eval x = .slice A n c) : (execOp a.eval o).run Try.prog u = .ok (.value (.int .i64 (n : Int))) u := by
  unfold execOp
  simp only [ho, resolve, invoke, builtin, Sem.run_bind, Sem.run_pure, Result.andThen_ok, List.map_toArray, List.map_cons, List.map_nil, h1]
  clear h1 ho
  simp [go_sem, Builtin.len_, goInt, run_underlying Try.underlying40]
theorem run_eqI {x y : Operand} {t : TypeId} (ho : o.op = .binOp .eql 3 x y t) (n : Nat) (h1 : a.eval x = .int .i64 (n : Int)) (h2 : a.eval y = .int .i64 (n : Int)) : (execOp a.eval o).run Try.prog u = .ok (.value (.bool true)) u := by
  unfold execOp
  rw [ho]
  simp only [h1, h2]
  clear h1 h2
  simp [go_sem]
end
end Go.Proofs.Ythlodfahajaneaa
