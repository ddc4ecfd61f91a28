/- A region that lays noughts over a result that holds noughts, and an error beside it. -/
import Derived.Test.YtlejmpinfbmccaaGreatDoorRelT
import Derived.Test.YtlejmpinfbmccaaGreatDoorAv
import Derived.Test.YtlejmpinfbmccaaGreatDoorRd
set_option linter.unusedSimpArgs false
set_option linter.unusedVariables false
set_option linter.unusedSimpArgs false
set_option linter.unusedVariables false
namespace Go.Proofs.YtlejmpinfbmccaaGreatDoor
open Go.RowKit
section
variable {a : Act} {o : Oper} {u : World} {K : Act → World → Prop} {Q : Exit → Act → World → Prop}
theorem wp_val {v : Value} (hrun : (execOp a.eval o).run Tryz.prog u = .ok (.value v) u) (h : K (a.put o.dst v) u) : o.wp Tryz.prog a u K Q := by
  unfold Oper.wp
  rw [hrun]
  exact h
theorem put_ne {a : Act} {d t : Tmp} (v : Value) (h : t ≠ d) : (a.put (some d) v).eval (.tmp t) = a.eval (.tmp t) :=
  Act.eval_put fun x hx he => by
    injection hx with hx
    injection he with he
    subst hx he
    exact h rfl
theorem put_self {a : Act} {d : Tmp} (v : Value) (h : d < a.tmps.size) : (a.put (some d) v).eval (.tmp d) = v := by
  simp [Act.put, Act.eval, h]
theorem want_plain {l : List Oper} (hg : o.guard = none) : Region.wanted o (yielded l.toArray a.tmps) = true := by
  unfold Region.wanted; rw [hg]
end
theorem built_zA : Tryz.prog.built 28 [] = some zA := by kernel_rfl
theorem zA_one : (zA : Array Value).all (·.oneCell') = true := by rw [← Array.all_toList]; rfl
theorem setL_other {L : Nat → Bool} {i j : Nat} (h : setL L i j = true) (hne : j ≠ i) : L j = true := by
  unfold setL at h
  rwa [if_neg hne] at h
set_option maxRecDepth 100000 in
theorem wp_giveUp {id : Nat} {o0 o1 o2 o3 : Oper} {a0 : Act} {V : World} {Q : Exit → Act → World → Prop} (b1 b2 : Tmp) (G g : Nat) (v : Value)
    (h0 : o0.op = .build 28 #[]) (d0 : o0.dst = some b1) (g0 : o0.guard = none)
    (h1 : o1.op = .load 45 (.global G)) (d1 : o1.dst = some b2) (g1 : o1.guard = none)
    (h2 : o2.op = .store 28 (.tmp 2) (.tmp b1)) (d2 : o2.dst = none) (g2 : o2.guard = none) (e2 : o2.after.toList.any (fun e => e.on == 0 && Region.binds .any e) = true)
    (h3 : o3.op = .assign (.tmp b2)) (d3 : o3.dst = some 3) (g3 : o3.guard = none) (e3 : o3.after.toList.any (fun e => e.on == 1 && Region.binds .any e) = true)
    (hB : relC a0.tmps.size 0 [o0, o1, o2, o3] = true) (ho : outside [o0, o1, o2, o3] 2 = true) (hb : b1 ≠ b2 ∧ b1 ≠ 3 ∧ b2 ≠ 3 ∧ b1 < a0.tmps.size ∧ b2 < a0.tmps.size ∧ 3 < a0.tmps.size ∧ 2 ≠ b1 ∧ 2 ≠ b2)
    (hp : a0.eval (.tmp 2) = .pointer (some ⟨g, 0, none⟩)) (hZ : V.heap[g]? = some (.cells zA 28 (0, 0))) (hv : V.cell? ⟨G, 0, none⟩ = some v)
    (h : ∀ a' : Act, a'.eval (.tmp 2) = .pointer (some ⟨g, 0, none⟩) → a'.eval (.tmp 3) = v → a'.defers = a0.defers → Q .normal a' V.drew) : (Code.region id #[o0, o1, o2, o3] true).wp Tryz.prog Q a0 V := by
  obtain ⟨n1, n2, n3, s1, s2, s3, n4, n5⟩ := hb
  show (Code.region id [o0, o1, o2, o3].toArray true).wp Tryz.prog Q a0 V
  refine wp_region_invA (fun L s W => s 2 = .pointer (some ⟨g, 0, none⟩) ∧ (L 0 = true → s b1 = .agg zA) ∧ (L 1 = true → s b2 = v) ∧ (L 3 = true → s 3 = v) ∧ W = V.drew) (by kernel_rfl) hB ⟨hp, fun h => (by cases h), fun h => (by cases h), fun h => (by cases h), rfl⟩ ⟨?s0, ?s1, ?s2, ?s3, trivial⟩ ?rest
  case s0 =>
    intro L a u hA hI hL hd
    obtain ⟨ip, i0, i1, i3, rfl⟩ := hI
    have hsz := hA.size
    refine ⟨want_plain g0, fun K Q h => ?_⟩
    refine wp_val (v := .agg zA) (by
      unfold execOp
      simp only [h0, Sem.run_bind]
      rw [run_build V.drew 28 _ zA (by simpa using built_zA)]
      rfl) ?_
    rw [d0] at h ⊢
    exact h _ _ ⟨(put_ne _ n4).trans ip, fun _ => put_self _ (by rw [hsz]; exact s1), fun k => (put_ne _ (Ne.symm n1)).trans (i1 (setL_other k (by decide))), fun k => (put_ne _ (Ne.symm n2)).trans (i3 (setL_other k (by decide))), rfl⟩
  case s1 =>
    intro L a u hA hI hL hd
    obtain ⟨ip, i0, i1, i3, rfl⟩ := hI
    have hsz := hA.size
    have hv' : V.drew.cell? ⟨G, 0, none⟩ = some v := hv
    refine ⟨want_plain g1, fun K Q h => ?_⟩
    refine wp_val (v := v) (by
      unfold execOp
      rw [h1]
      simp [go_sem, hv', Act.eval]) ?_
    rw [d1] at h ⊢
    exact h _ _ ⟨(put_ne _ n5).trans ip, fun k => (put_ne _ n1).trans (i0 (setL_other k (by decide))), fun _ => put_self _ (by rw [hsz]; exact s2), fun k => (put_ne _ (Ne.symm n3)).trans (i3 (setL_other k (by decide))), rfl⟩
  case s2 =>
    intro L a u hA hI hL hd
    obtain ⟨ip, i0, i1, i3, rfl⟩ := hI
    have hp' : a.eval (.tmp 2) = .pointer (some ⟨g, 0, none⟩) := (hA.eval 2 ho).trans hp
    have hL0 : L 0 = true := by
      obtain ⟨e, he, hb⟩ := List.any_eq_true.1 e2
      rw [Bool.and_eq_true, beq_iff_eq] at hb
      have := hd e (by simpa using he) hb.2
      rwa [hb.1] at this
    have hy := i0 hL0
    refine ⟨want_plain g2, fun K Q h => ?_⟩
    refine wp_store_row 28 (.tmp 2) (.tmp b1) h2 g zA hp' hy 28 zA hZ attr_size rfl zA_one ?_
    rw [show V.drew.setRow g zA = V.drew from setRow_self _ _ _ _ _ hZ]
    rw [d2] at h ⊢
    exact h _ _ ⟨ip, fun k => i0 (setL_other k (by decide)), fun k => i1 (setL_other k (by decide)), fun k => i3 (setL_other k (by decide)), rfl⟩
  case s3 =>
    intro L a u hA hI hL hd
    obtain ⟨ip, i0, i1, i3, rfl⟩ := hI
    have hsz := hA.size
    have hL1 : L 1 = true := by
      obtain ⟨e, he, hb⟩ := List.any_eq_true.1 e3
      rw [Bool.and_eq_true, beq_iff_eq] at hb
      have := hd e (by simpa using he) hb.2
      rwa [hb.1] at this
    have hy := i1 hL1
    refine ⟨want_plain g3, fun K Q h => ?_⟩
    refine wp_val (v := v) (by
      unfold execOp
      rw [h3]
      simp only [go_sem] at hy ⊢
      simp [hy]) ?_
    rw [d3] at h ⊢
    exact h _ _ ⟨(put_ne _ (by decide)).trans ip, fun k => (put_ne _ n2).trans (i0 (setL_other k (by decide))), fun k => (put_ne _ n3).trans (i1 (setL_other k (by decide))), fun _ => put_self _ (by rw [hsz]; exact s3), rfl⟩
  case rest =>
    intro L vs w' hI hall
    obtain ⟨ip, i0, i1, i3, rfl⟩ := hI
    exact h _ ip (i3 (hall 3 (by simp))) (putsFrom_size _ _ _ _).2
end Go.Proofs.YtlejmpinfbmccaaGreatDoor
