/- OwnerAlone: what its walk is made of. -/
import Derived.Test.YtdioafoikcfhhaaPi
import Derived.Test.YtdioafoikcfhhaaGx
import Derived.Deep.DeepCutAuto
import Derived.Deep.CutBlock
set_option linter.unusedSimpArgs false
set_option linter.unusedVariables false
set_option linter.unusedSimpArgs false
set_option linter.unusedVariables false
namespace Go.Proofs.Ytdioafoikcfhhaa
open Go.RowKit
/-- A process, attributes, a list: three blocks of the call's own, and what they are made of, as it lay at the call's beginning. -/
structure Pk (w V : World) (c : Cr) (A : Option Addr) (n : Nat) (x : At) (p : ALie) (l : Ac) (pl : Lie) : Prop where
  cb : Cb V w.heap.size c A n
  bt : Bt V (w.heap.size + 1) x p
  bl : Ab V (w.heap.size + 2) l pl
  cl0 : CLies w c A
  al0 : ALies w x p
  ll0 : Lies w l pl
  be : Below w.heap.size w V
section
variable {w V V' : World} {c : Cr} {A : Option Addr} {n : Nat} {x : At} {p : ALie} {l : Ac} {pl : Lie}
theorem Pk.cl (h : Pk w V c A n x p l pl) : CLies V c A := h.cl0.below h.be
theorem Pk.al (h : Pk w V c A n x p l pl) : ALies V x p := h.al0.below h.be
theorem Pk.ll (h : Pk w V c A n x p l pl) : Lies V l pl := h.ll0.below h.be
theorem Pk.on (h : Pk w V c A n x p l pl) (hb : Below V.heap.size V V') : Pk w V' c A n x p l pl := ⟨h.cb.on hb, h.bt.on hb, h.bl.on hb, h.cl0, h.al0, h.ll0, h.be.trans (hb.mono h.be.size)⟩
theorem Pk.turn (h : Pk w V c A n x p l pl) {g : Nat} (hg : w.heap.size + 3 ≤ g) (D : Array Value) : Pk w (V.setRow g D) c A n x p l pl :=
  ⟨(setRow_other V g _ D (by omega)).trans h.cb, (setRow_other V g _ D (by omega)).trans h.bt, (setRow_other V g _ D (by omega)).trans h.bl, h.cl0, h.al0, h.ll0, below_setRow h.be (by omega) _⟩
theorem Pk.start (hc : CLies w c A) (hx : ALies w x p) (hl : Lies w l pl) : Pk w (((w.alloc (.cells (c.c A n) 25)).alloc (.cells (x.c p) 31)).alloc (.cells (l.c pl) 28)) c A n x p l pl := by
  have h1 := (Pb.start (n := n) hc hx).one (.cells (l.c pl) 28)
  refine ⟨h1.cb, h1.bt, ?_, hc, hx, hl, h1.be⟩
  have := Ab.new ((w.alloc (.cells (c.c A n) 25)).alloc (.cells (x.c p) 31)) l pl
  simpa only [World.size_alloc, Nat.add_assoc] using this
/-- A variable of attributes, their rows one's own. -/
structure Ho (V : World) (g : Nat) (x : At) (q : ALie) : Prop where
  bt : Bt V g x q
  ow : AOw V x q
theorem Ho.li {g : Nat} {q : ALie} (h : Ho V g x q) : ALies V x q := h.ow.lies
theorem Ho.on {g : Nat} {q : ALie} (h : Ho V g x q) (hb : Below V.heap.size V V') : Ho V' g x q := ⟨h.bt.on hb, h.ow.below hb⟩
theorem Ho.fresh {q : ALie} (h : AOw V x q) : Ho ((V.alloc (.cells zAt 31)).setRow V.heap.size (At.c x q)) V.heap.size x q := ⟨setRow_heap _ _ _ _ _ _ (heap_alloc_new V _), h.below (put_below V (At.c x q))⟩
theorem Ho.put {g : Nat} {q : ALie} (h : Ho V g x q) {y : At} {r : ALie} (ho : AOw V y r) : Ho (V.setRow g (At.c y r)) g y r := ⟨setRow_heap _ _ _ _ _ _ h.bt, ho.turn h.bt _⟩
theorem Ho.other {g g' : Nat} {q r : ALie} {y : At} (h : Ho V g x q) (k : Bt V g' y r) (hne : g ≠ g') (D : Array Value) : Ho (V.setRow g' D) g x q := ⟨(setRow_other V g' g D hne).trans h.bt, h.ow.turn k _⟩
end
theorem offNN (a b : Nat) (ha : a < 8) (hb : b < 8) : bits .andNot .u8 (a : Int) (b : Int) = ((offN a b : Nat) : Int) := by
  have h : ∀ a b : Fin 8, bits .andNot .u8 ((a.val : Nat) : Int) ((b.val : Nat) : Int) = ((offN a.val b.val : Nat) : Int) := by decide +kernel
  exact h ⟨a, ha⟩ ⟨b, hb⟩
/-- What was told of an owner. -/
theorem told_n {u : Int} (h1 : -1 ≤ u) (h2 : u ≤ 65535) (h : ¬ u = -1) {y : Nat} (hy : y = u.toNat) : wrap64 (y : Int) = u ∧ decide (0 ≤ u) = true ∧ decide (u < 0) = false := by
  refine ⟨?_, by rw [decide_eq_true_eq]; omega, by rw [decide_eq_false_iff_not]; omega⟩
  unfold wrap64
  omega
theorem told_m {u : Int} (h : u = -1) {y x : Nat} (hy : y = x) : ((y : Int) != (x : Int)) = false ∧ decide (0 ≤ u) = false ∧ decide (u < 0) = true := by
  refine ⟨by rw [bne_eq_false_iff_eq]; omega, by rw [decide_eq_false_iff_not]; omega, by rw [decide_eq_true_eq]; omega⟩
/-- Who does not own it turns nothing. -/
theorem alone_no {c : Cr} {x : At} {k wh : Nat} {l : Ac} {u g : Int} (h : ownB c x = false) : chmN c x ≠ 0 ∧ choN c x u g ≠ 0 ∧ aclN c x k wh l ≠ 0 := by
  have e1 : chmN c x = 0 → ownB c x = true := fun h0 => by
    unfold chmN at h0
    unfold ownB
    cases hv : validB c x
    · rw [hv] at h0; simp at h0
    · rw [hv] at h0
      cases ho : ownsB c x
      · rw [ho] at h0; simp at h0
      · rfl
  refine ⟨fun h0 => ?_, fun h0 => ?_, fun h0 => ?_⟩
  · rw [e1 h0] at h; cases h
  · obtain ⟨h1, _, h2, _⟩ := valid_cho h0
    unfold ownB at h
    rw [h1, h2] at h
    cases h
  · obtain ⟨h1, _, h2, _⟩ := valid_acl h0
    unfold ownB at h
    rw [h1, h2] at h
    cases h
theorem alone_yes {c : Cr} {x : At} {k m : Nat} (h : ownB c x = true) : chmN c x = 0 ∧ chmA c x k m = chmX c x k m := by
  unfold ownB at h
  rw [Bool.and_eq_true] at h
  unfold chmN chmA
  rw [h.1, h.2]
  exact ⟨rfl, rfl⟩
section
variable {P : Program} {TT : World → World → Prop} {R : Nat → Value → World → Prop} {l0 : List Oper} {a0 : Act} {w0 : World} {s : Nat}
def StepsX (P : Program) (TT : World → World → Prop) (R : Nat → Value → World → Prop) (l0 : List Oper) (a0 : Act) (w0 : World) (s : Nat) : Nat → List Oper → Prop
  | _, [] => True
  | k, o :: r => (k < s → StepAt P TT R l0 a0 w0 k o) ∧ StepsX P TT R l0 a0 w0 s (k + 1) r
theorem StepsX.at : ∀ {l : List Oper} {k : Nat}, StepsX P TT R l0 a0 w0 s k l → ∀ (i : Nat) (o : Oper), l[i]? = some o → k + i < s → StepAt P TT R l0 a0 w0 (k + i) o
  | [], _, _, i, o, h, _ => by simp at h
  | x :: r, k, hS, i, o, h, hn => by
    cases i with
    | zero =>
      simp only [List.getElem?_cons_zero, Option.some.injEq] at h
      subst h
      exact hS.1 hn
    | succ i =>
      rw [List.getElem?_cons_succ] at h
      have := hS.2.at i o h (by omega)
      rwa [show k + 1 + i = k + (i + 1) by omega] at this
theorem StepsX.at0 (h : StepsX P TT R l0 a0 w0 s 0 l0) (i : Nat) (o : Oper) (hi : l0[i]? = some o) (hs : i < s) : StepAt P TT R l0 a0 w0 i o := by
  have := h.at i o hi (by omega)
  rwa [Nat.zero_add] at this
end
theorem run_loadP {o : Oper} {a : Act} {u : World} {x : Operand} (ho : o.op = .load 28 x) (g k : Nat) (y : Ac) (q : Lie) (hx : a.eval x = .pointer (some ⟨g, k, none⟩)) (h : ∀ j v, (y.c q).toList[j]? = some v → u.cell? ⟨g, k + j, none⟩ = some v) : (execOp a.eval o).run Try.prog u = .ok (.value (y.v q)) u := by
  unfold execOp
  simp only [ho, hx, Instr.loadAt, Instr.sureAddr, Sem.run_bind, Sem.run_pure, Result.andThen_ok, run_loadVar_part (P := Try.prog) u 28 g k (y.c q).toList _ h Try.underlying28 rfl acl_size]
/-- A list that lies in rows of one's own. -/
def lieS (y : Ac) : Sp4 := .prop (fun v w => ∃ q, v = Ac.v y q ∧ LiesO w y q) fun v w w' h hb => by
  obtain ⟨q, e, h⟩ := h
  exact ⟨q, e, h.below hb⟩
end Go.Proofs.Ytdioafoikcfhhaa
