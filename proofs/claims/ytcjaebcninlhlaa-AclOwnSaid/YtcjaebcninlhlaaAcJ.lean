/- 'x, y := acl.Copy(own), acl.Chmod(own, bits)': the region's invariant. -/
import Derived.Test.YtcjaebcninlhlaaAcLawB
import Derived.Test.YtcjaebcninlhlaaAc11
import Derived.Test.YtcjaebcninlhlaaInv
set_option linter.unusedSimpArgs false
set_option linter.unusedVariables false
namespace Go.Proofs.Ytcjaebcninlhlaa
open Go.RowKit
section
variable {o : Oper} {a : Act} {u : World} {K : Act → World → Prop} {Q : Exit → Act → World → Prop}
theorem wp_val {v : Value} (hrun : (execOp a.eval o).run Try.prog u = .ok (.value v) u) (h : K (a.put o.dst v) u) : o.wp Try.prog a u K Q := by
  unfold Oper.wp
  rw [hrun]
  exact h
theorem wp_valw {v : Value} {w' : World} (hrun : (execOp a.eval o).run Try.prog u = .ok (.value v) w') (h : K (a.put o.dst v) w') : o.wp Try.prog a u K Q := by
  unfold Oper.wp
  rw [hrun]
  exact h
theorem wp_callv {f : FuncId} {args : Array Value} (hrun : (execOp a.eval o).run Try.prog u = .ok (.enter f args) u) (hc : Calls Try.prog f args u fun e w' => ∃ v, e = .returned v ∧ K (a.put o.dst v) w') : o.wp Try.prog a u K Q := by
  unfold Oper.wp
  rw [hrun]
  refine hc.mono ?_
  rintro e w' ⟨v, rfl, h⟩
  exact h
theorem wp_skip {w' : World} (hrun : (execOp a.eval o).run Try.prog u = .ok .skip w') (h : K (a.put o.dst undef) w') : o.wp Try.prog a u K Q := by
  unfold Oper.wp
  rw [hrun]
  exact h
/-- A variable of a list is made. -/
theorem run_allocA (ho : o.op = .alloc 24) : (execOp a.eval o).run Try.prog u = .ok (.value (.pointer (some ⟨u.heap.size, 0, none⟩))) (u.alloc (.cells zC 24)) := by
  unfold execOp
  rw [ho]
  simp [go_sem]
/-- A list is stored over another one. -/
theorem run_storeA {x y : Operand} (ho : o.op = .store 24 x y) (g : Nat) (z z' : Ac) (q q' : Lie) (hx : a.eval x = .pointer (some ⟨g, 0, none⟩)) (hy : a.eval y = z.v q) (h : Ab u g z' q') : (execOp a.eval o).run Try.prog u = .ok .skip (setAll u g z q) := by
  obtain ⟨y0, y1, y2, y3, y4, y5, y6⟩ := h.cells
  have f0 := h.frozen 0
  have f1 := h.frozen 1
  have f2 := h.frozen 2
  have f3 := h.frozen 3
  have f4 := h.frozen 4
  have f5 := h.frozen 5
  have f6 := h.frozen 6
  unfold execOp
  rw [ho]
  simp only [hx, hy]
  simp [go_sem, y0, y1, y2, y3, y4, y5, y6, f0, f1, f2, f3, f4, f5, f6]
end
theorem put_ne {a : Act} {d t : Tmp} (v : Value) (h : t ≠ d) : (a.put (some d) v).eval (.tmp t) = a.eval (.tmp t) :=
  Act.eval_put fun x hx he => by
    injection hx with hx
    injection he with he
    subst hx he
    exact h rfl
theorem put_self {a : Act} {d : Tmp} (v : Value) (h : d < a.tmps.size) : (a.put (some d) v).eval (.tmp d) = v := by
  simp [Act.put, Act.eval, h]
abbrev ptrV (g : Nat) : Value := .pointer (some ⟨g, 0, none⟩)
/-- What has been told, and lies in memory, whichever operations have come up. -/
structure J (w0 : World) (x X : Ac) (b : Nat) (o : Lie) (L : Nat → Bool) (e : Nat → Value) (w : World) (q1 q2 : Lie) (g5 g6 : Nat) : Prop where
  low : Below w0.heap.size w0 w
  c1 : L 4 = true → L 1 = true
  c4 : L 7 = true → L 4 = true
  c5 : L 7 = true → L 5 = true
  c6 : L 8 = true → L 6 = true
  c7 : L 8 = true → L 7 = true
  f0 : L 0 = true → e 13 = x.v o
  f1 : L 1 = true → e 14 = x.v q1 ∧ Copied w0 w x q1
  f2 : L 2 = true → e 15 = x.v o
  f3 : L 3 = true → e 16 = .int .u16 (b : Nat)
  f4 : L 4 = true → e 17 = X.v q2 ∧ Copied w0 w X q2 ∧ ∀ k, OfRows q1 k → ¬ OfRows q2 k
  f5 : L 5 = true → e 6 = ptrV g5 ∧ w0.heap.size ≤ g5 ∧ (L 7 = false → Zb w g5) ∧ (L 7 = true → Ab w g5 x q1)
  f6 : L 6 = true → e 7 = ptrV g6 ∧ w0.heap.size ≤ g6 ∧ (L 8 = false → Zb w g6) ∧ (L 8 = true → Ab w g6 X q2)
  ne : L 5 = true → L 6 = true → g5 ≠ g6
theorem Zb.on {w w' : World} {g : Nat} (h : Zb w g) (hb : Below w.heap.size w w') : Zb w' g := (Zb.ab h).on hb
theorem Zb.lt {w : World} {g : Nat} (h : Zb w g) : g < w.heap.size := (Zb.ab h).lt
section
variable {w0 w w' : World} {x X : Ac} {b : Nat} {o : Lie} {L : Nat → Bool} {e e' : Nat → Value} {q1 q2 r : Lie} {g5 g6 g : Nat}
/-- Slots kept, memory grown. -/
theorem J.move (H : J w0 x X b o L e w q1 q2 g5 g6) (hw : Below w.heap.size w w') (e0 : L 0 = true → e' 13 = e 13) (e1 : L 1 = true → e' 14 = e 14) (e2 : L 2 = true → e' 15 = e 15) (e3 : L 3 = true → e' 16 = e 16) (e4 : L 4 = true → e' 17 = e 17) (e5 : L 5 = true → e' 6 = e 6) (e6 : L 6 = true → e' 7 = e 7) : J w0 x X b o L e' w' q1 q2 g5 g6 :=
  ⟨H.low.trans (hw.mono H.low.size), H.c1, H.c4, H.c5, H.c6, H.c7,
   fun h => (e0 h).trans (H.f0 h), fun h => ⟨(e1 h).trans (H.f1 h).1, (H.f1 h).2.on hw⟩, fun h => (e2 h).trans (H.f2 h), fun h => (e3 h).trans (H.f3 h),
   fun h => ⟨(e4 h).trans (H.f4 h).1, (H.f4 h).2.1.on hw, (H.f4 h).2.2⟩,
   fun h => ⟨(e5 h).trans (H.f5 h).1, (H.f5 h).2.1, fun k => ((H.f5 h).2.2.1 k).on hw, fun k => ((H.f5 h).2.2.2 k).on hw⟩,
   fun h => ⟨(e6 h).trans (H.f6 h).1, (H.f6 h).2.1, fun k => ((H.f6 h).2.2.1 k).on hw, fun k => ((H.f6 h).2.2.2 k).on hw⟩, H.ne⟩
theorem J.add0 (H : J w0 x X b o L e w q1 q2 g5 g6) (hk : L 0 = false) (n : e 13 = x.v o) : J w0 x X b o (setL L 0) e w q1 q2 g5 g6 :=
  ⟨(H.low),
   (fun h => by simpa [setL] using H.c1 (by simpa [setL] using h)),
   (fun h => by simpa [setL] using H.c4 (by simpa [setL] using h)),
   (fun h => by simpa [setL] using H.c5 (by simpa [setL] using h)),
   (fun h => by simpa [setL] using H.c6 (by simpa [setL] using h)),
   (fun h => by simpa [setL] using H.c7 (by simpa [setL] using h)),
   (fun h => n),
   (fun h => H.f1 (by simpa [setL] using h)),
   (fun h => H.f2 (by simpa [setL] using h)),
   (fun h => H.f3 (by simpa [setL] using h)),
   (fun h => H.f4 (by simpa [setL] using h)),
   (fun h => ⟨(H.f5 (by simpa [setL] using h)).1, (H.f5 (by simpa [setL] using h)).2.1, fun k => (H.f5 (by simpa [setL] using h)).2.2.1 (by simpa [setL] using k), fun k => (H.f5 (by simpa [setL] using h)).2.2.2 (by simpa [setL] using k)⟩),
   (fun h => ⟨(H.f6 (by simpa [setL] using h)).1, (H.f6 (by simpa [setL] using h)).2.1, fun k => (H.f6 (by simpa [setL] using h)).2.2.1 (by simpa [setL] using k), fun k => (H.f6 (by simpa [setL] using h)).2.2.2 (by simpa [setL] using k)⟩),
   (fun h h' => H.ne (by simpa [setL] using h) (by simpa [setL] using h'))⟩
theorem J.add2 (H : J w0 x X b o L e w q1 q2 g5 g6) (hk : L 2 = false) (n : e 15 = x.v o) : J w0 x X b o (setL L 2) e w q1 q2 g5 g6 :=
  ⟨(H.low),
   (fun h => by simpa [setL] using H.c1 (by simpa [setL] using h)),
   (fun h => by simpa [setL] using H.c4 (by simpa [setL] using h)),
   (fun h => by simpa [setL] using H.c5 (by simpa [setL] using h)),
   (fun h => by simpa [setL] using H.c6 (by simpa [setL] using h)),
   (fun h => by simpa [setL] using H.c7 (by simpa [setL] using h)),
   (fun h => H.f0 (by simpa [setL] using h)),
   (fun h => H.f1 (by simpa [setL] using h)),
   (fun h => n),
   (fun h => H.f3 (by simpa [setL] using h)),
   (fun h => H.f4 (by simpa [setL] using h)),
   (fun h => ⟨(H.f5 (by simpa [setL] using h)).1, (H.f5 (by simpa [setL] using h)).2.1, fun k => (H.f5 (by simpa [setL] using h)).2.2.1 (by simpa [setL] using k), fun k => (H.f5 (by simpa [setL] using h)).2.2.2 (by simpa [setL] using k)⟩),
   (fun h => ⟨(H.f6 (by simpa [setL] using h)).1, (H.f6 (by simpa [setL] using h)).2.1, fun k => (H.f6 (by simpa [setL] using h)).2.2.1 (by simpa [setL] using k), fun k => (H.f6 (by simpa [setL] using h)).2.2.2 (by simpa [setL] using k)⟩),
   (fun h h' => H.ne (by simpa [setL] using h) (by simpa [setL] using h'))⟩
theorem J.add3 (H : J w0 x X b o L e w q1 q2 g5 g6) (hk : L 3 = false) (n : e 16 = .int .u16 (b : Nat)) : J w0 x X b o (setL L 3) e w q1 q2 g5 g6 :=
  ⟨(H.low),
   (fun h => by simpa [setL] using H.c1 (by simpa [setL] using h)),
   (fun h => by simpa [setL] using H.c4 (by simpa [setL] using h)),
   (fun h => by simpa [setL] using H.c5 (by simpa [setL] using h)),
   (fun h => by simpa [setL] using H.c6 (by simpa [setL] using h)),
   (fun h => by simpa [setL] using H.c7 (by simpa [setL] using h)),
   (fun h => H.f0 (by simpa [setL] using h)),
   (fun h => H.f1 (by simpa [setL] using h)),
   (fun h => H.f2 (by simpa [setL] using h)),
   (fun h => n),
   (fun h => H.f4 (by simpa [setL] using h)),
   (fun h => ⟨(H.f5 (by simpa [setL] using h)).1, (H.f5 (by simpa [setL] using h)).2.1, fun k => (H.f5 (by simpa [setL] using h)).2.2.1 (by simpa [setL] using k), fun k => (H.f5 (by simpa [setL] using h)).2.2.2 (by simpa [setL] using k)⟩),
   (fun h => ⟨(H.f6 (by simpa [setL] using h)).1, (H.f6 (by simpa [setL] using h)).2.1, fun k => (H.f6 (by simpa [setL] using h)).2.2.1 (by simpa [setL] using k), fun k => (H.f6 (by simpa [setL] using h)).2.2.2 (by simpa [setL] using k)⟩),
   (fun h h' => H.ne (by simpa [setL] using h) (by simpa [setL] using h'))⟩
theorem J.add1 (H : J w0 x X b o L e w q1 q2 g5 g6) (hk : L 1 = false) (n : e 14 = x.v r) (m : Copied w0 w x r) : J w0 x X b o (setL L 1) e w r q2 g5 g6 :=
  ⟨(H.low),
   (fun h => by simp [setL]),
   (fun h => by simpa [setL] using H.c4 (by simpa [setL] using h)),
   (fun h => by simpa [setL] using H.c5 (by simpa [setL] using h)),
   (fun h => by simpa [setL] using H.c6 (by simpa [setL] using h)),
   (fun h => by simpa [setL] using H.c7 (by simpa [setL] using h)),
   (fun h => H.f0 (by simpa [setL] using h)),
   (fun h => ⟨n, m⟩),
   (fun h => H.f2 (by simpa [setL] using h)),
   (fun h => H.f3 (by simpa [setL] using h)),
   (fun h => absurd (H.c1 (by simpa [setL] using h)) (by simp [hk])),
   (fun h => ⟨(H.f5 (by simpa [setL] using h)).1, (H.f5 (by simpa [setL] using h)).2.1, fun k => (H.f5 (by simpa [setL] using h)).2.2.1 (by simpa [setL] using k), fun k => absurd (H.c1 (H.c4 (by simpa [setL] using k))) (by simp [hk])⟩),
   (fun h => ⟨(H.f6 (by simpa [setL] using h)).1, (H.f6 (by simpa [setL] using h)).2.1, fun k => (H.f6 (by simpa [setL] using h)).2.2.1 (by simpa [setL] using k), fun k => (H.f6 (by simpa [setL] using h)).2.2.2 (by simpa [setL] using k)⟩),
   (fun h h' => H.ne (by simpa [setL] using h) (by simpa [setL] using h'))⟩
theorem J.add4 (H : J w0 x X b o L e w q1 q2 g5 g6) (hk : L 4 = false) (h1 : L 1 = true) (n : e 17 = X.v r) (m : Copied w0 w X r) (s : ∀ k, OfRows q1 k → ¬ OfRows r k) : J w0 x X b o (setL L 4) e w q1 r g5 g6 :=
  ⟨(H.low),
   (fun h => by simpa [setL] using h1),
   (fun h => by simp [setL]),
   (fun h => by simpa [setL] using H.c5 (by simpa [setL] using h)),
   (fun h => by simpa [setL] using H.c6 (by simpa [setL] using h)),
   (fun h => by simpa [setL] using H.c7 (by simpa [setL] using h)),
   (fun h => H.f0 (by simpa [setL] using h)),
   (fun h => H.f1 (by simpa [setL] using h)),
   (fun h => H.f2 (by simpa [setL] using h)),
   (fun h => H.f3 (by simpa [setL] using h)),
   (fun h => ⟨n, m, s⟩),
   (fun h => ⟨(H.f5 (by simpa [setL] using h)).1, (H.f5 (by simpa [setL] using h)).2.1, fun k => (H.f5 (by simpa [setL] using h)).2.2.1 (by simpa [setL] using k), fun k => (H.f5 (by simpa [setL] using h)).2.2.2 (by simpa [setL] using k)⟩),
   (fun h => ⟨(H.f6 (by simpa [setL] using h)).1, (H.f6 (by simpa [setL] using h)).2.1, fun k => (H.f6 (by simpa [setL] using h)).2.2.1 (by simpa [setL] using k), fun k => absurd (H.c4 (H.c7 (by simpa [setL] using k))) (by simp [hk])⟩),
   (fun h h' => H.ne (by simpa [setL] using h) (by simpa [setL] using h'))⟩
theorem J.add5 (H : J w0 x X b o L e w q1 q2 g5 g6) (hk : L 5 = false) (n : e 6 = ptrV g) (m : w0.heap.size ≤ g) (z : Zb w g) (ne : L 6 = true → g ≠ g6) : J w0 x X b o (setL L 5) e w q1 q2 g g6 :=
  ⟨(H.low),
   (fun h => by simpa [setL] using H.c1 (by simpa [setL] using h)),
   (fun h => by simpa [setL] using H.c4 (by simpa [setL] using h)),
   (fun h => by simp [setL]),
   (fun h => by simpa [setL] using H.c6 (by simpa [setL] using h)),
   (fun h => by simpa [setL] using H.c7 (by simpa [setL] using h)),
   (fun h => H.f0 (by simpa [setL] using h)),
   (fun h => H.f1 (by simpa [setL] using h)),
   (fun h => H.f2 (by simpa [setL] using h)),
   (fun h => H.f3 (by simpa [setL] using h)),
   (fun h => H.f4 (by simpa [setL] using h)),
   (fun h => ⟨n, m, fun _ => z, fun k => absurd (H.c5 (by simpa [setL] using k)) (by simp [hk])⟩),
   (fun h => ⟨(H.f6 (by simpa [setL] using h)).1, (H.f6 (by simpa [setL] using h)).2.1, fun k => (H.f6 (by simpa [setL] using h)).2.2.1 (by simpa [setL] using k), fun k => (H.f6 (by simpa [setL] using h)).2.2.2 (by simpa [setL] using k)⟩),
   (fun _ h' => ne (by simpa [setL] using h'))⟩
theorem J.add6 (H : J w0 x X b o L e w q1 q2 g5 g6) (hk : L 6 = false) (n : e 7 = ptrV g) (m : w0.heap.size ≤ g) (z : Zb w g) (ne : L 5 = true → g5 ≠ g) : J w0 x X b o (setL L 6) e w q1 q2 g5 g :=
  ⟨(H.low),
   (fun h => by simpa [setL] using H.c1 (by simpa [setL] using h)),
   (fun h => by simpa [setL] using H.c4 (by simpa [setL] using h)),
   (fun h => by simpa [setL] using H.c5 (by simpa [setL] using h)),
   (fun h => by simp [setL]),
   (fun h => by simpa [setL] using H.c7 (by simpa [setL] using h)),
   (fun h => H.f0 (by simpa [setL] using h)),
   (fun h => H.f1 (by simpa [setL] using h)),
   (fun h => H.f2 (by simpa [setL] using h)),
   (fun h => H.f3 (by simpa [setL] using h)),
   (fun h => H.f4 (by simpa [setL] using h)),
   (fun h => ⟨(H.f5 (by simpa [setL] using h)).1, (H.f5 (by simpa [setL] using h)).2.1, fun k => (H.f5 (by simpa [setL] using h)).2.2.1 (by simpa [setL] using k), fun k => (H.f5 (by simpa [setL] using h)).2.2.2 (by simpa [setL] using k)⟩),
   (fun h => ⟨n, m, fun _ => z, fun k => absurd (H.c6 (by simpa [setL] using k)) (by simp [hk])⟩),
   (fun h _ => ne (by simpa [setL] using h))⟩
theorem rows_ne {g : Nat} {q : Lie} {y z : Ac} {p : Lie} (h : Copied w0 w y q) (hz : Ab w g z p) : (∀ ad, q.A = some ad → ad.block ≠ g) ∧ ∀ ad, q.B = some ad → ad.block ≠ g := by
  have key : ∀ {A : Option Addr} {n c : Nat} {M : List Nm}, Mine w0 w A n c M → ∀ ad, A = some ad → ad.block ≠ g := by
    intro A n c M hM ad e
    obtain ⟨_, _, _, h4⟩ := hM.1
    rcases h4 with ⟨h4, _⟩ | ⟨g', cur, h4, hg, _⟩
    · rw [h4] at e; cases e
    · rw [h4] at e; injection e with e; subst e
      exact cells_type hg hz (by decide)
  exact ⟨key h.us, key h.gs⟩
theorem J.add7 (H : J w0 x X b o L e w q1 q2 g5 g6) (hk : L 7 = false) (h1 : L 1 = true) (h4 : L 4 = true) (h5 : L 5 = true) : J w0 x X b o (setL L 7) e (setAll w g5 x q1) q1 q2 g5 g6 :=
  ⟨(below_all H.low (H.f5 h5).2.1 x),
   (fun h => by simpa [setL] using H.c1 (by simpa [setL] using h)),
   (fun h => by simpa [setL] using h4),
   (fun h => by simpa [setL] using h5),
   (fun h => by simpa [setL] using H.c6 (by simpa [setL] using h)),
   (fun h => by simp [setL]),
   (fun h => H.f0 (by simpa [setL] using h)),
   (fun h => ⟨(H.f1 h1).1, (H.f1 h1).2.all x q1 (rows_ne (H.f1 h1).2 ((H.f5 h5).2.2.1 hk).ab).1 (rows_ne (H.f1 h1).2 ((H.f5 h5).2.2.1 hk).ab).2⟩),
   (fun h => H.f2 (by simpa [setL] using h)),
   (fun h => H.f3 (by simpa [setL] using h)),
   (fun h => ⟨(H.f4 h4).1, (H.f4 h4).2.1.all x q1 (rows_ne (H.f4 h4).2.1 ((H.f5 h5).2.2.1 hk).ab).1 (rows_ne (H.f4 h4).2.1 ((H.f5 h5).2.2.1 hk).ab).2, (H.f4 h4).2.2⟩),
   (fun h => ⟨(H.f5 h5).1, (H.f5 h5).2.1, fun k => absurd k (by simp [setL]), fun _ => Ab.all ((H.f5 h5).2.2.1 hk).ab x q1⟩),
   (fun h => ⟨(H.f6 (by simpa [setL] using h)).1, (H.f6 (by simpa [setL] using h)).2.1, fun k => Ab.others ((H.f6 (by simpa [setL] using h)).2.2.1 (by simpa [setL] using k)).ab x q1 (H.ne h5 (by simpa [setL] using h)).symm, fun k => absurd (H.c7 (by simpa [setL] using k)) (by simp [hk])⟩),
   (fun h h' => H.ne (by simpa [setL] using h) (by simpa [setL] using h'))⟩
theorem J.add8 (H : J w0 x X b o L e w q1 q2 g5 g6) (hk : L 8 = false) (h1 : L 1 = true) (h4 : L 4 = true) (h5 : L 5 = true) (h6 : L 6 = true) (h7 : L 7 = true) : J w0 x X b o (setL L 8) e (setAll w g6 X q2) q1 q2 g5 g6 :=
  ⟨(below_all H.low (H.f6 h6).2.1 X),
   (fun h => by simpa [setL] using H.c1 (by simpa [setL] using h)),
   (fun h => by simpa [setL] using H.c4 (by simpa [setL] using h)),
   (fun h => by simpa [setL] using H.c5 (by simpa [setL] using h)),
   (fun h => by simpa [setL] using h6),
   (fun h => by simpa [setL] using h7),
   (fun h => H.f0 (by simpa [setL] using h)),
   (fun h => ⟨(H.f1 h1).1, (H.f1 h1).2.all X q2 (rows_ne (H.f1 h1).2 ((H.f6 h6).2.2.1 hk).ab).1 (rows_ne (H.f1 h1).2 ((H.f6 h6).2.2.1 hk).ab).2⟩),
   (fun h => H.f2 (by simpa [setL] using h)),
   (fun h => H.f3 (by simpa [setL] using h)),
   (fun h => ⟨(H.f4 h4).1, (H.f4 h4).2.1.all X q2 (rows_ne (H.f4 h4).2.1 ((H.f6 h6).2.2.1 hk).ab).1 (rows_ne (H.f4 h4).2.1 ((H.f6 h6).2.2.1 hk).ab).2, (H.f4 h4).2.2⟩),
   (fun h => ⟨(H.f5 h5).1, (H.f5 h5).2.1, fun k => absurd (h7.symm.trans (by simpa [setL] using k)) (by simp), fun _ => ((H.f5 h5).2.2.2 h7).others X q2 (H.ne h5 h6)⟩),
   (fun h => ⟨(H.f6 h6).1, (H.f6 h6).2.1, fun k => absurd k (by simp [setL]), fun _ => Ab.all ((H.f6 h6).2.2.1 hk).ab X q2⟩),
   (fun h h' => H.ne (by simpa [setL] using h) (by simpa [setL] using h'))⟩
end
end Go.Proofs.Ytcjaebcninlhlaa
