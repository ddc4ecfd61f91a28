/- The deferred closure of the program: it catches what a refused call ended with. -/
import Derived.Test.YtdioafoikcfhhaaOe
import Derived.Test.YtdioafoikcfhhaaRelT
import Derived.Test.YtdioafoikcfhhaaAtStp
set_option linter.unusedSimpArgs false
set_option linter.unusedVariables false
set_option linter.unusedSimpArgs false
set_option linter.unusedVariables false
namespace Go.Proofs.Ytdioafoikcfhhaa
open Go.RowKit
section
variable {o : Oper} {a : Act} {u : World} {K : Act → World → Prop} {Q : Exit → Act → World → Prop}
theorem wp_val {v : Value} (hrun : (execOp a.eval o).run Try.prog u = .ok (.value v) u) (h : K (a.put o.dst v) u) : o.wp Try.prog a u K Q := by
  unfold Oper.wp
  rw [hrun]
  exact h
theorem wp_opskip {w' : World} (hrun : (execOp a.eval o).run Try.prog u = .ok .skip w') (h : K (a.put o.dst undef) w') : o.wp Try.prog a u K Q := by
  unfold Oper.wp
  rw [hrun]
  exact h
end
theorem put_ne {a : Act} {d t : Tmp} (v : Value) (h : t ≠ d) : (a.put (some d) v).eval (.tmp t) = a.eval (.tmp t) :=
  Act.eval_put fun x hx he => by
    injection he with he
    injection hx with hx
    exact h (hx.trans he.symm).symm
theorem put_at {a : Act} {d : Tmp} (v : Value) (h : d < a.tmps.size) : (a.put (some d) v).eval (.tmp d) = v := by
  simp [Act.put, Act.eval, h]
set_option maxRecDepth 100000 in
/-- Where the call returns it finds nothing. -/
theorem catch_idle (g h : Nat) (w : World) : CallsD Try.prog 62 #[.pointer (some ⟨g, 0, none⟩), .pointer (some ⟨h, 0, none⟩)] .returning w fun e u' w' => e = .returned (.tuple #[]) ∧ u' = .returning ∧ w' = w := by
  refine callsD_of_wpS Try.func62 rfl fun c₀ cs hu => ?_
  apply wpS_seq
  apply wpS_region
  simp [wpOpsS, go_sem, recoverD, hu, Try.ntmps62, Exit.thenS]
  apply wpS_seq
  apply wpS_region
  simp [wpOpsS, go_sem, Exit.thenS]
  refine wpS_cond (t := false) (by simp [Act.eval, Array.replicate]) ?_
  simp only [Bool.false_eq_true, if_false]
  refine wpS_of_wp (wp_skip ?_)
  cases c₀
  simp_all [bodyPostS, results, Try.results62]
/-- As it lays what it caught: which operations have come up. -/
theorem run_assert_errno (n : Int) (u : World) : (Instr.typeAssert (raisesV n) 20 35 false).run Try.prog u = .ok (.int .i64 n) u := by
  unfold Instr.typeAssert
  rw [Sem.run_bind, run_underlying Try.underlying35 u]
  simp [Result.andThen_ok]
theorem errno_size : (Try.prog.info? 35).map (·.size) = some 1 := by kernel_rfl
structure Catch (g h : Nat) (n : Int) (w : World) (L : Nat → Bool) (e : Nat → Value) (w' : World) : Prop where
  f0 : L 0 = true → e 6 = .agg zAt
  f1 : L 1 = true → e 7 = raisesV n
  f2 : L 2 = true → e 8 = .int .i64 n
  fg : ∃ R : Array Value, w'.heap[g]? = some (.cells R 31 (0, 0)) ∧ R.size = 19 ∧ (L 3 = true → R = zAt)
  fh : ∃ v : Value, w'.heap[h]? = some (.cells #[v] 35 (0, 0)) ∧ (L 4 = true → v = .int .i64 n)
  on : Only (fun i => i = g ∨ i = h) w w'
set_option maxRecDepth 100000 in
set_option maxHeartbeats 4000000 in
/-- Where the call panics it lays the error, and attributes of zeros. -/
theorem catch_calls (g h : Nat) (n : Int) (older : List PanicEntry) (R : Array Value) (v : Value) (w : World) (hgh : g ≠ h) (hg : w.heap[g]? = some (.cells R 31 (0, 0))) (hR : R.size = 19) (hh : w.heap[h]? = some (.cells #[v] 35 (0, 0))) :
    CallsD Try.prog 62 #[.pointer (some ⟨g, 0, none⟩), .pointer (some ⟨h, 0, none⟩)] (.panicking ({ v := raisesV n, recovered := false } :: older)) w fun e u' w' =>
      e = .returned (.tuple #[]) ∧ u' = .panicking ({ v := raisesV n, recovered := true } :: older) ∧ w'.heap[g]? = some (.cells zAt 31 (0, 0)) ∧ w'.heap[h]? = some (.cells #[.int .i64 n] 35 (0, 0)) ∧ Only (fun i => i = g ∨ i = h) w w' := by
  refine callsD_of_wpS Try.func62 rfl fun c₀ cs hu => ?_
  apply wpS_seq
  apply wpS_region
  simp [wpOpsS, go_sem, recoverD, hu, Try.ntmps62, Exit.thenS]
  apply wpS_seq
  apply wpS_region
  simp [wpOpsS, go_sem, Exit.thenS]
  refine wpS_cond (t := true) (by simp [Act.eval, Array.replicate]) ?_
  simp only [if_true]
  refine wpS_of_wp ?_
  refine wp_region_invA (Catch g h n w) (by kernel_rfl) (by kernel_rfl) ?start ?steps ?rest
  case start =>
    exact ⟨fun h => (by cases h), fun h => (by cases h), fun h => (by cases h), ⟨R, hg, hR, fun h => (by cases h)⟩, ⟨v, hh, fun h => (by cases h)⟩, Only.drewN (Only.refl _ _) 1⟩
  case steps =>
    refine ⟨?s0, ?s1, ?s2, ?s3, ?s4, trivial⟩
    case s0 =>
      intro L a u hA J hL hd
      have hsz : a.tmps.size = 9 := hA.size
      refine ⟨wanted_plain rfl, fun K Q hK => ?_⟩
      refine wp_val (v := .agg zAt) (by unfold execOp; kernel_rfl) ?_
      exact hK _ _ ⟨fun _ => put_at _ (by rw [hsz]; decide), fun hL' => (put_ne _ (by decide)).trans (J.f1 (by simpa [setL] using hL')), fun hL' => (put_ne _ (by decide)).trans (J.f2 (by simpa [setL] using hL')), by obtain ⟨R, r1, r2, r3⟩ := J.fg; exact ⟨R, r1, r2, fun hL' => r3 (by simpa [setL] using hL')⟩, by obtain ⟨v, r1, r2⟩ := J.fh; exact ⟨v, r1, fun hL' => r2 (by simpa [setL] using hL')⟩, J.on⟩
    case s1 =>
      intro L a u hA J hL hd
      have hsz : a.tmps.size = 9 := hA.size
      refine ⟨wanted_plain rfl, fun K Q hK => ?_⟩
      have k2 := ev_of (show a.eval (.tmp 2) = raisesV n from hA.eval 2 rfl)
      refine wp_val (v := raisesV n) (by unfold execOp; simp [go_sem, k2]) ?_
      exact hK _ _ ⟨fun hL' => (put_ne _ (by decide)).trans (J.f0 (by simpa [setL] using hL')), fun _ => put_at _ (by rw [hsz]; decide), fun hL' => (put_ne _ (by decide)).trans (J.f2 (by simpa [setL] using hL')), by obtain ⟨R, r1, r2, r3⟩ := J.fg; exact ⟨R, r1, r2, fun hL' => r3 (by simpa [setL] using hL')⟩, by obtain ⟨v, r1, r2⟩ := J.fh; exact ⟨v, r1, fun hL' => r2 (by simpa [setL] using hL')⟩, J.on⟩
    case s2 =>
      intro L a u hA J hL hd
      have hsz : a.tmps.size = 9 := hA.size
      refine ⟨wanted_plain rfl, fun K Q hK => ?_⟩
      have k7 := ev_of (J.f1 (hd ⟨1, .data⟩ (by simp) rfl))
      refine wp_val (v := .int .i64 n) (by unfold execOp; simp [go_sem, k7, run_assert_errno]) ?_
      exact hK _ _ ⟨fun hL' => (put_ne _ (by decide)).trans (J.f0 (by simpa [setL] using hL')), fun hL' => (put_ne _ (by decide)).trans (J.f1 (by simpa [setL] using hL')), fun _ => put_at _ (by rw [hsz]; decide), by obtain ⟨R, r1, r2, r3⟩ := J.fg; exact ⟨R, r1, r2, fun hL' => r3 (by simpa [setL] using hL')⟩, by obtain ⟨v, r1, r2⟩ := J.fh; exact ⟨v, r1, fun hL' => r2 (by simpa [setL] using hL')⟩, J.on⟩
    case s3 =>
      intro L a u hA J hL hd
      have hsz : a.tmps.size = 9 := hA.size
      refine ⟨wanted_plain rfl, fun K Q hK => ?_⟩
      have k6 := J.f0 (hd ⟨0, .data⟩ (by simp) rfl)
      have k0 : a.eval (.tmp 0) = .pointer (some ⟨g, 0, none⟩) := hA.eval 0 rfl
      obtain ⟨R1, r1, r2, r3⟩ := J.fg
      obtain ⟨v1, q1, q2⟩ := J.fh
      refine wp_opskip (w' := u.setRow g zAt) (by
        unfold execOp
        simp only [k0, k6, Instr.storeAt, Instr.sureAddr, Sem.run_bind, Sem.run_pure, Result.andThen_ok, run_storeVar_row u g 31 31 R1 zAt r1 attr_size r2 (by rw [← Array.all_toList]; rfl)]) ?_
      refine hK _ _ ⟨fun hL' => J.f0 (by simpa [setL] using hL'), fun hL' => J.f1 (by simpa [setL] using hL'), fun hL' => J.f2 (by simpa [setL] using hL'), ⟨zAt, setRow_heap _ _ _ _ _ _ r1, rfl, fun _ => rfl⟩, ⟨v1, (setRow_other u g h zAt (Ne.symm hgh)).trans q1, fun hL' => q2 (by simpa [setL] using hL')⟩, J.on.setRow (.inl rfl) _⟩
    case s4 =>
      intro L a u hA J hL hd
      have hsz : a.tmps.size = 9 := hA.size
      refine ⟨wanted_plain rfl, fun K Q hK => ?_⟩
      have k8 := J.f2 (hd ⟨2, .data⟩ (by simp) rfl)
      have k1 : a.eval (.tmp 1) = .pointer (some ⟨h, 0, none⟩) := hA.eval 1 rfl
      obtain ⟨R1, r1, r2, r3⟩ := J.fg
      obtain ⟨v1, q1, q2⟩ := J.fh
      refine wp_opskip (w' := u.setRow h #[.int .i64 n]) (by
        unfold execOp
        simp only [k1, k8, Instr.storeAt, Instr.sureAddr, Sem.run_bind, Sem.run_pure, Result.andThen_ok, run_storeVar_one u h 35 35 v1 (.int .i64 n) q1 errno_size rfl]) ?_
      refine hK _ _ ⟨fun hL' => J.f0 (by simpa [setL] using hL'), fun hL' => J.f1 (by simpa [setL] using hL'), fun hL' => J.f2 (by simpa [setL] using hL'), ⟨R1, (setRow_other u h g _ hgh).trans r1, r2, fun hL' => r3 (by simpa [setL] using hL')⟩, ⟨.int .i64 n, setRow_heap _ _ _ _ _ _ q1, fun _ => rfl⟩, J.on.setRow (.inr rfl) _⟩
  case rest =>
    intro L vs u J hall
    obtain ⟨R1, r1, r2, r3⟩ := J.fg
    obtain ⟨v1, q1, q2⟩ := J.fh
    have e1 := r3 (hall 3 (by decide))
    have e2 := q2 (hall 4 (by decide))
    subst e1 e2
    refine ⟨rfl, _, rfl, .tuple #[], by simp [results, Try.results62], rfl, rfl, r1, q1, J.on⟩
end Go.Proofs.Ytdioafoikcfhhaa
