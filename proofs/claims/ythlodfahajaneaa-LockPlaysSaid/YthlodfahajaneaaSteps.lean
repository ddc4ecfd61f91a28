/- Regions that draw their order: what an operation leaves; steps by kind. -/
import Derived.Test.YthlodfahajaneaaRel2
import Derived.Test.YthlodfahajaneaaCel
import Derived.Test.YthlodfahajaneaaProg
import Derived.WalkKit
import Derived.Laws.Bits64b
import Derived.Laws.CopyRow
set_option linter.unusedSimpArgs false
set_option linter.unusedVariables false
namespace Go.Proofs.Ythlodfahajaneaa
open Go.RowKit
/-- Nothing that was there has turned. -/
def On (w w' : World) : Prop := Below w.heap.size w w'
theorem On.refl (w : World) : On w w := Below.refl _ _
theorem On.trans {a b c : World} (h : On a b) (k : On b c) : On a c := Below.trans h (Below.mono k (Below.size h))
theorem On.drawn (w : World) : On w { w with drawn := w.drawn + 1 } := below_drewN (Below.refl _ _) 1
theorem on_alloc (w : World) (o : Obj) : On w (w.alloc o) := (Below.refl _ _).alloc (Nat.le_refl _) o
theorem on_two (w : World) (o o' : Obj) : On w ((w.alloc o).alloc o') := (on_alloc w o).trans (on_alloc _ o')
theorem on_drewN (w : World) (n : Nat) : On w (w.drewN n) := below_drewN (Below.refl _ _) n
/-- Nothing that was there has turned but block b, and that stays as o once it is so. -/
structure WrT (b : Nat) (o : Obj) (w w' : World) : Prop where
  only : Only (fun k => k = b) w w'
  done : w.heap[b]? = some o → w'.heap[b]? = some o
theorem WrT.trans {b : Nat} {o : Obj} {x y z : World} (h : WrT b o x y) (k : WrT b o y z) : WrT b o x z := ⟨h.only.trans k.only fun _i hi => .inl hi, fun hd => k.done (h.done hd)⟩
theorem WrT.on {b : Nat} {o : Obj} {x y : World} (h : On x y) : WrT b o x y := ⟨Only.of_below _ h, fun hd => (Below.block h b (by
  rcases Nat.lt_or_ge b x.heap.size with hlt | hge
  · exact hlt
  · rw [Array.getElem?_eq_none hge] at hd; cases hd)).trans hd⟩
/-- What an operation leaves: a value; a row beside block b; block b as o; or nothing is said. -/
inductive Sp2 where
  | val (v : Value)
  | row (l : List Nat)
  | cell (u : Value)
  | done
  | any
def Sp2.ok (b : Nat) (o : Obj) : Sp2 → Value → World → Prop
  | .val u, v, _ => v = u
  | .row l, v, w => ∃ A c, v = .slice A l.length c ∧ Row w A l ∧ ∀ ad, A = some ad → ad.block ≠ b
  | .cell u, v, w => ∃ p : Addr, v = .pointer (some p) ∧ p.block < w.heap.size ∧ w.cell? p = some u ∧ p.block ≠ b
  | .done, _, w => w.heap[b]? = some o
  | .any, _, _ => True
theorem Sp2.stable {b : Nat} {o : Obj} {s : Sp2} {v : Value} {w w' : World} (h : s.ok b o v w) (hb : WrT b o w w') : s.ok b o v w' := by
  cases s with
  | val u => exact h
  | row l =>
    obtain ⟨A, c, e, hr, hne⟩ := h
    refine ⟨A, c, e, fun h0 => ?_, hne⟩
    obtain ⟨ad, e2, hl, hc⟩ := hr h0
    exact ⟨ad, e2, Nat.lt_of_lt_of_le hl hb.only.size, fun k hk => (World.cell?_of_block (by rw [add_block]; exact hb.only.block ad.block hl (hne ad e2))).trans (hc k hk)⟩
  | cell u =>
    obtain ⟨p, e, hl, hc, hne⟩ := h
    exact ⟨p, e, Nat.lt_of_lt_of_le hl hb.only.size, (World.cell?_of_block (hb.only.block p.block hl hne)).trans hc, hne⟩
  | done => exact hb.done h
  | any => trivial
def sps (b : Nat) (o : Obj) (S : List Sp2) (i : Nat) (v : Value) (w : World) : Prop := (S.getD i .any).ok b o v w
/-- Where an operation has no slot, nothing is said of its value. -/
def spB (S : List Sp2) : Nat → List Oper → Bool
  | _, [] => true
  | k, o :: r => (match o.dst with
    | some _ => true
    | none => match S.getD k .any with
      | .done => true
      | .any => true
      | _ => false) && spB S (k + 1) r
theorem spB_at {S : List Sp2} : ∀ {l : List Oper} {k : Nat}, spB S k l = true → ∀ i o, l[i]? = some o → o.dst = none → S.getD (k + i) .any = .done ∨ S.getD (k + i) .any = .any
  | [], _, _, i, o, h, _ => by simp at h
  | x :: r, k, hB, i, o, h, hd => by
    simp only [spB, Bool.and_eq_true] at hB
    obtain ⟨h1, h2⟩ := hB
    cases i with
    | zero =>
      simp only [List.getElem?_cons_zero, Option.some.injEq] at h
      subst h
      rw [hd] at h1
      simp only at h1
      rw [Nat.add_zero]
      cases hs : S.getD k .any with
      | done => exact .inl rfl
      | any => exact .inr rfl
      | val v => rw [hs] at h1; cases h1
      | row l => rw [hs] at h1; cases h1
      | cell u => rw [hs] at h1; cases h1
    | succ i =>
      rw [List.getElem?_cons_succ] at h
      have := spB_at h2 i o h hd
      rwa [show k + 1 + i = k + (i + 1) by omega] at this
theorem sps_un {b : Nat} {ob : Obj} {S : List Sp2} {l : List Oper} (h : spB S 0 l = true) : ∀ o i, l[i]? = some o → o.dst = none → ∀ v w, sps b ob S i v w → sps b ob S i undef w := by
  intro o i hi hd v w hs
  have := spB_at h i o hi hd
  rw [Nat.zero_add] at this
  unfold sps at hs ⊢
  rcases this with e | e
  · rw [e] at hs ⊢; exact hs
  · rw [e]; trivial
section
variable {T : World → World → Prop} {R : Value → World → Prop} {o : Oper} {a : Act} {w : World}
theorem StepOK.skip {P : Program} {w' : World} (hr : (execOp a.eval o).run P w = .ok .skip w') (hv : R undef w') (hT : T w w') : StepOK P T o a w R := by
  intro K Q h
  unfold Oper.wp
  rw [hr]
  exact h undef w' hv hT
theorem stp_faddr (hT : T w w) (x : Operand) (t : TypeId) (f : Nat) (ho : o.op = .fieldAddr t x f) (p q : Addr) (h1 : a.eval x = .pointer (some p)) (hf : (Instr.fieldAt t (.pointer (some p)) f).run Try.prog w = .ok (.pointer (some q)) w) (hR : R (.pointer (some q)) w) :
    StepOK Try.prog T o a w R := by
  refine StepOK.run (.pointer (some q)) ?_ hR hT
  unfold execOp
  rw [ho]
  simp only [h1, Sem.run_bind, hf]
  rfl
theorem stp_loadInt (hT : T w w) (x : Operand) (ho : o.op = .load 3 x) (p : Addr) (v : Value) (h1 : a.eval x = .pointer (some p)) (hc : w.cell? p = some v) (hR : R v w) : StepOK Try.prog T o a w R := by
  refine StepOK.run v ?_ hR hT
  unfold execOp
  rw [ho]
  simp only [h1]
  simp [go_sem, hc]
theorem stp_nil (hT : T w w) (x : Operand) (ho : o.op = .nilCheck x) (p : Addr) (h1 : a.eval x = .pointer (some p)) (hR : R (.pointer (some p)) w) : StepOK Try.prog T o a w R := by
  refine StepOK.run (.pointer (some p)) ?_ hR hT
  unfold execOp
  rw [ho]
  simp only [h1]
  rfl
theorem stp_extract (hT : T w w) (x : Operand) (i : Nat) (ho : o.op = .extract x i) (vs : Array Value) (v : Value) (h1 : a.eval x = .tuple vs) (hv : vs[i]? = some v) (hR : R v w) : StepOK Try.prog T o a w R := by
  refine StepOK.run v ?_ hR hT
  unfold execOp
  rw [ho]
  simp only [h1]
  simp [go_sem, Instr.extract, hv]
theorem stp_neqI (hT : T w w) (x : Operand) (k : Int) (u : TypeId) (ho : o.op = .binOp .neq 3 x (.const (.int .i64 k)) u) (n : Int) (h1 : a.eval x = .int .i64 n) (hR : R (.bool (n != k)) w) : StepOK Try.prog T o a w R := by
  refine StepOK.run _ ?_ hR hT
  have e0 : a.eval (.const (.int .i64 k)) = .int .i64 k := rfl
  unfold execOp
  rw [ho]
  simp only [h1, e0]
  clear hR h1 e0 hT
  simp [go_sem]
theorem stp_pickT (hT : T w w) (x y z : Operand) (ho : o.op = .pick x y z) (h1 : a.eval x = .bool true) (hR : R (a.eval y) w) : StepOK Try.prog T o a w R := by
  refine StepOK.run _ ?_ hR hT
  unfold execOp
  rw [ho]
  simp only [h1]
  simp [go_sem]
theorem stp_pickF (hT : T w w) (x y z : Operand) (ho : o.op = .pick x y z) (h1 : a.eval x = .bool false) (hR : R (a.eval z) w) : StepOK Try.prog T o a w R := by
  refine StepOK.run _ ?_ hR hT
  unfold execOp
  rw [ho]
  simp only [h1]
  simp [go_sem]
theorem stp_call (f : FuncId) (xs : Array Operand) (ts : Array TypeId) (vs : Array Value) (_ho : o.op = .call { callee := .value (.func f), args := xs, argTypes := ts }) (h1 : xs.map a.eval = vs)
    (hr : ∀ (ρ : Operand → Value), xs.map ρ = vs → (execOp ρ o).run Try.prog w = .ok (.enter f vs) w) (hc : Calls Try.prog f vs w fun e w' => ∃ v, e = .returned v ∧ R v w' ∧ T w w') : StepOK Try.prog T o a w R :=
  StepOK.call f vs (hr _ h1) hc
end
end Go.Proofs.Ythlodfahajaneaa
