/- Regions that draw their order and only read; more steps of those that store. -/
import Derived.Test.YtppnicdhahgigaaDoorIRef4
namespace Go.Proofs.YtppnicdhahgigaaDoor
open Go.RowKit WordMath
/-- What an operation leaves: a value; a row; a row and no error. -/
inductive Sp4 where
  | val (v : Value)
  | row (l : List Nat)
  | trow (l : List Nat)
  | any
def Sp4.ok : Sp4 → Value → World → Prop
  | .val u, v, _ => v = u
  | .row l, v, w => ∃ A c, v = .slice A l.length c ∧ l.length ≤ c ∧ Row w A l
  | .trow l, v, w => ∃ A c, v = .tuple #[.slice A l.length c, .int .i64 0] ∧ l.length ≤ c ∧ Row w A l
  | .any, _, _ => True
theorem Sp4.stable {s : Sp4} {v : Value} {w w' : World} (h : s.ok v w) (hb : On w w') : s.ok v w' := by
  cases s with
  | val u => exact h
  | row l => obtain ⟨A, c, e, hc, hr⟩ := h; exact ⟨A, c, e, hc, hr.below hb⟩
  | trow l => obtain ⟨A, c, e, hc, hr⟩ := h; exact ⟨A, c, e, hc, hr.below hb⟩
  | any => trivial
def R4 (S : List Sp4) (i : Nat) (v : Value) (w : World) : Prop := (S.getD i .any).ok v w
theorem steps2_of {P : Program} {T : World → World → Prop} {R : Nat → Value → World → Prop} {l : List Oper} {a0 : Act} {w0 : World} {s : Nat} : ∀ {r : List Oper} {k : Nat}, Steps P T R l a0 w0 k r → Steps2 P T T (fun _ => false) s R l a0 w0 k r
  | [], _, _ => trivial
  | _ :: _, _, ⟨h1, h2⟩ => ⟨fun a w hT _ hA hd => by
      rcases h1 a w hT hA hd with ⟨h, k⟩ | h
      · exact .inl ⟨h, by rw [ite_self]; exact k⟩
      · exact .inr h, steps2_of h2⟩
/-- **Such a region.** -/
theorem wp_region4 {id : Nat} (S : List Sp4) {l : List Oper} {a0 : Act} {w : World} {Q : Exit → Act → World → Prop}
    (hm : Tryd.prog.follows .mixedOrders = true) (hB : relC a0.tmps.size 0 l = true) (hD : l.all (fun o => o.dst.isSome) = true) (hS : Steps Tryd.prog On (R4 S) l a0 w 0 l)
    (h : ∀ (vs : Nat → Value) w', On w w' → (∀ i, i < l.length → (S.getD i .any).ok (vs i) w') → Q .normal (putsFrom l 0 vs a0) w') : (Code.region id l.toArray true).wp Tryd.prog Q a0 w :=
  wp_region_rel2 (T0 := On) (T := On) (R := R4 S) (fun _ => false) 0 hm hB On.refl On.trans (fun h => h) On.trans (fun _ _ _ _ h k => Sp4.stable h k)
    (fun o i ho hd => by
      have := List.all_eq_true.1 hD o (List.mem_of_getElem? ho)
      rw [hd] at this
      cases this) (On.drawn _) (by simp [earlyB]) (steps2_of hS) h
section
variable {z : Ino} {fk fn : Int} {E W : Nat → Bool} {s : Nat} {S : List Sp3} {l : List Oper} {a0 : Act} {w0 : World} {k : Nat} {o : Oper}
/-- A new row of zeros. -/
theorem st3_make (d : Tmp) (hk : S.getD k .any = .row [0, 0, 0, 0, 0, 0, 0, 0]) (ho : o.op = .makeSlice 28 (.const (.int .i64 8)) (.const (.int .i64 8))) (hd : o.dst = some d) (hg : o.guard = none) (hW : W k = false) :
    StepAt3 Tryd.prog On (TT w0.heap.size z fk fn) E W s (R0 S) (R1 w0.heap.size z fk fn S) l a0 w0 k o := by
  intro a u hT hT0 hA h1 h0
  have hmk : (Instr.makeSlice 28 (.int .i64 8) (.int .i64 8)).run Tryd.prog u = .ok (.slice (some ⟨u.heap.size, 0, none⟩) 8 8) (u.alloc (.cells (madeCells #[.int .u64 0] 8) 44)) := run_make_row' (P := Tryd.prog) 28 44 (.int .u64 0) 8 Tryd.underlying28 u64_info rfl .i64 .i64 8 (by decide) (by decide) u
  have hB := Blk.new u 44 8
  refine ⟨wanted_plain hg, StepOK.run (w' := u.alloc (.cells (madeCells #[.int .u64 0] 8) 44)) (.slice (some ⟨u.heap.size, 0, none⟩) 8 8) (by
    unfold execOp
    rw [ho]
    have e0 : a.eval (.const (.int .i64 8)) = .int .i64 8 := rfl
    simp only [e0, Sem.run_bind, hmk]
    rfl) ?_ ?_⟩
  · rw [ov_some _ hd]
    exact ⟨by unfold R1; rw [hk]; exact ⟨_, 8, upd_self _ _ _, Nat.le_refl _⟩, fun _ => by unfold R0; rw [hk]; exact ⟨_, 8, upd_self _ _ _, Nat.le_refl _, hB.row⟩⟩
  · rw [hW]; exact (Below.refl _ _).alloc (Nat.le_refl _) _
/-- A row of one's own that reads as another one. -/
theorem st3_clone (m : List Nat) (d : Tmp) (hk : S.getD k .any = .row m) (hd : o.dst = some d) (hg : o.guard = none) (hW : W k = false) (x y : Operand) (ho : o.op = .call { callee := .builtin .append, args := #[x, y], argTypes := #[28, 28] })
    (A : Option Addr) (c : Nat) (hlen : m.length ≤ 17592186044416) (hE : (E k || decide (k = s)) = true)
    (step : ∀ a u, On w0 u → Agree l a0 a → (∀ j dj, (l[j]?).bind (·.dst) = some dj → o.after.toList.any (fun e => e.on == j && Region.binds .any e) = true → ∀ vj, S.getD j .any = .val vj → a.eval (.tmp dj) = vj) → a.eval x = .slice none 0 0 ∧ a.eval y = .slice A m.length c ∧ Row u A m) :
    StepAt3 Tryd.prog On (TT w0.heap.size z fk fn) E W s (R0 S) (R1 w0.heap.size z fk fn S) l a0 w0 k o := by
  intro a u hT hT0 hA h1 h0
  obtain ⟨q1, q2, hr⟩ := step a u (hT0 hE) hA fun j dj hj hm vj hv => by
    obtain ⟨e1, e2⟩ := dep3 h1 j dj hj hm
    rw [hv] at e1
    rw [← e2]; exact e1
  obtain ⟨i0, hi0, hz0, hs0, hb0⟩ := info_parts u64_info
  obtain ⟨v, w', hrun, h2, h3⟩ := run_clone_own (P := Tryd.prog) u 28 o.type 44 i0 Tryd.underlying28 hi0 hz0 hs0 hb0 A m c hr hlen
  obtain ⟨_, A', c', rfl, e1, _, _, e4⟩ := Row.of_ownC h2
  refine ⟨wanted_plain hg, StepOK.run (w' := w') (.slice A' m.length c') (by
    unfold execOp
    simp only [ho, resolve, invoke, builtin, Sem.run_bind, Sem.run_pure, Result.andThen_ok, List.map_toArray, List.map_cons, List.map_nil, q1, q2, hrun]) ?_ ?_⟩
  · rw [ov_some _ hd]
    exact ⟨by unfold R1; rw [hk]; exact ⟨A', c', upd_self _ _ _, e4⟩, fun _ => by unfold R0; rw [hk]; exact ⟨A', c', upd_self _ _ _, e4, e1⟩⟩
  · rw [hW]; exact h3
end
end Go.Proofs.YtppnicdhahgigaaDoor
