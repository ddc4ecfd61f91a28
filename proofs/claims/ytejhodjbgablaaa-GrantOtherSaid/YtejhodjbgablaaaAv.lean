/- Attributes as values and as blocks. -/
import Derived.Test.YtejhodjbgablaaaAt1
import Derived.BigFrame
set_option linter.unusedSimpArgs false
set_option linter.unusedVariables false
namespace Go.Proofs.Ytejhodjbgablaaa
open Go.RowKit WordMath
/-- Where the rows of attributes lie. -/
structure ALie where
  p : Lie
  q : Lie
  X : Option Addr
  n : Nat
abbrev At.c (x : At) (p : ALie) : Array Value :=
  #[.int .u8 (x.bi : Nat), .int .u16 (x.ui : Nat), .int .u16 (x.gi : Nat),
    .int .u8 (x.ac.ow : Nat), .int .u8 (x.ac.gr : Nat), .int .u8 (x.ac.ot : Nat), .slice p.p.A x.ac.us.length p.p.c, .slice p.p.B x.ac.gs.length p.p.d, .bool x.ac.hm, .int .u8 (x.ac.ms : Nat),
    .bool x.hd,
    .int .u8 (x.df.ow : Nat), .int .u8 (x.df.gr : Nat), .int .u8 (x.df.ot : Nat), .slice p.q.A x.df.us.length p.q.c, .slice p.q.B x.df.gs.length p.q.d, .bool x.df.hm, .int .u8 (x.df.ms : Nat),
    .slice p.X x.xs.length p.n]
abbrev At.v (x : At) (p : ALie) : Value := .agg (x.c p)
/-- Its rows, in memory. -/
structure ALies (w : World) (x : At) (p : ALie) : Prop where
  ac : Lies w x.ac p.p
  df : Lies w x.df p.q
  xs : Cel w p.X (xv x.xs)
theorem ALies.below {w w' : World} {x : At} {p : ALie} (h : ALies w x p) (hb : Below w.heap.size w w') : ALies w' x p := ⟨h.ac.below hb, h.df.below hb, h.xs.below hb⟩
/-- Small enough. -/
structure ASm (x : At) : Prop where
  ac : Sm x.ac
  df : Sm x.df
  xs : x.xs.length ≤ 1099511627776
/-- A block of attributes. -/
def Bt (w : World) (b : Nat) (x : At) (p : ALie) : Prop := w.heap[b]? = some (.cells (x.c p) 31 (0, 0))
section
variable {w w' : World} {b : Nat} {x : At} {p : ALie}
theorem Bt.new (w : World) (x : At) (p : ALie) : Bt (w.alloc (.cells (x.c p) 31)) w.heap.size x p := heap_alloc_new w _
theorem Bt.lt (h : Bt w b x p) : b < w.heap.size := lt_of_cells h
theorem Bt.on (h : Bt w b x p) (hb : Below w.heap.size w w') : Bt w' b x p := (hb.block b h.lt).trans h
theorem Bt.keep {F : Nat → Prop} (h : Bt w b x p) (ho : Only F w w') (hF : ¬ F b) : Bt w' b x p := (ho.block b h.lt hF).trans h
theorem Bt.cell (h : Bt w b x p) (k : Nat) : w.cell? ⟨b, k, none⟩ = (x.c p)[k]? := by
  unfold Bt at h
  simp [World.cell?, h]
theorem Bt.frozen (h : Bt w b x p) (k : Nat) : w.frozen? ⟨b, k, none⟩ = false := by
  unfold Bt at h
  simp [World.frozen?, h]
theorem Bt.c0 (h : Bt w b x p) : w.cell? ⟨b, 0, none⟩ = some (.int .u8 (x.bi : Nat)) := h.cell 0
theorem Bt.c1 (h : Bt w b x p) : w.cell? ⟨b, 1, none⟩ = some (.int .u16 (x.ui : Nat)) := h.cell 1
theorem Bt.c2 (h : Bt w b x p) : w.cell? ⟨b, 2, none⟩ = some (.int .u16 (x.gi : Nat)) := h.cell 2
theorem Bt.c10 (h : Bt w b x p) : w.cell? ⟨b, 10, none⟩ = some (.bool x.hd) := h.cell 10
theorem Bt.c18 (h : Bt w b x p) : w.cell? ⟨b, 18, none⟩ = some (.slice p.X x.xs.length p.n) := h.cell 18
theorem Bt.c6 (h : Bt w b x p) : w.cell? ⟨b, 6, none⟩ = some (.slice p.p.A x.ac.us.length p.p.c) := h.cell 6
theorem Bt.c7 (h : Bt w b x p) : w.cell? ⟨b, 7, none⟩ = some (.slice p.p.B x.ac.gs.length p.p.d) := h.cell 7
theorem Bt.c14 (h : Bt w b x p) : w.cell? ⟨b, 14, none⟩ = some (.slice p.q.A x.df.us.length p.q.c) := h.cell 14
theorem Bt.c15 (h : Bt w b x p) : w.cell? ⟨b, 15, none⟩ = some (.slice p.q.B x.df.gs.length p.q.d) := h.cell 15
/-- The cells of the list that stands at o: 3, or 11. -/
theorem Bt.ac (h : Bt w b x p) : ∀ j u, (x.ac.c p.p).toList[j]? = some u → w.cell? ⟨b, 3 + j, none⟩ = some u := fun j u hu => by
  rw [h.cell]
  have hj : j < 7 := (List.getElem?_eq_some_iff.1 hu).1
  obtain rfl | rfl | rfl | rfl | rfl | rfl | rfl : j = 0 ∨ j = 1 ∨ j = 2 ∨ j = 3 ∨ j = 4 ∨ j = 5 ∨ j = 6 := by omega
  all_goals exact hu
theorem Bt.df (h : Bt w b x p) : ∀ j u, (x.df.c p.q).toList[j]? = some u → w.cell? ⟨b, 11 + j, none⟩ = some u := fun j u hu => by
  rw [h.cell]
  have hj : j < 7 := (List.getElem?_eq_some_iff.1 hu).1
  obtain rfl | rfl | rfl | rfl | rfl | rfl | rfl : j = 0 ∨ j = 1 ∨ j = 2 ∨ j = 3 ∨ j = 4 ∨ j = 5 ∨ j = 6 := by omega
  all_goals exact hu
theorem Bt.bt0 (h : Bt w b x p) : ∀ j u, (x.c p).toList[j]? = some u → w.cell? ⟨b, 0 + j, none⟩ = some u := fun j u hu => by
  rw [Nat.zero_add, h.cell]
  simpa using hu
end
section
variable {P : Program}
theorem run_loadVar_part (w : World) (ty : TypeId) (g o : Nat) (cs : List Value) (d : TypeDesc) (hc : ∀ j u, cs[j]? = some u → w.cell? ⟨g, o + j, none⟩ = some u)
    (hu : P.underlying ty = some d) (hd : (match d with | .struct _ | .array _ _ => true | _ => false) = true) (hi : (P.info? ty).map (·.size) = some cs.length) :
    (loadVar ty ⟨g, o, none⟩).run P w = .ok (.agg cs.toArray) w := by
  have hl : (loadCells ⟨g, o, none⟩ cs.length).run P w = .ok cs.toArray w :=
    run_loadCells_list (P := P) w ⟨g, o, none⟩ cs (fun j v hv => by
      have hadd : (⟨g, o, none⟩ : Addr).add j = ⟨g, o + j, none⟩ := by unfold Addr.add; split <;> simp_all
      rw [hadd]
      exact hc j v hv)
  cases hq : P.info? ty with
  | none => simp [hq] at hi
  | some i =>
    have hs : i.size = cs.length := by simpa [hq] using hi
    have hagg : (isAgg ty).run P w = .ok true w := by
      unfold isAgg
      rw [Sem.run_bind, run_underlying hu w]
      cases d <;> simp_all
    simp [loadVar, Sem.run_bind, hagg, sizeOf, typeInfo, hq, hs, hl]
/-- A part of a block is loaded whole. -/
theorem wpList_load_part {ops : Array Oper} {rest : List Oper} {o : Oper} {a : Act} {w : World} {Q : Exit → Act → World → Prop} (hgd : Region.wanted o (yielded ops a.tmps) = true) (ty : TypeId) (x : Operand) (ho : o.op = .load ty x)
    (g k : Nat) (hx : a.eval x = .pointer (some ⟨g, k, none⟩)) (cs : List Value) (d : TypeDesc) (hc : ∀ j u, cs[j]? = some u → w.cell? ⟨g, k + j, none⟩ = some u)
    (hu : P.underlying ty = some d) (hd : (match d with | .struct _ | .array _ _ => true | _ => false) = true) (hi : (P.info? ty).map (·.size) = some cs.length) (v : Value) (hv : v = .agg cs.toArray)
    (h : wpList P ops Q rest (a.put o.dst v) w) : wpList P ops Q (o :: rest) a w :=
  BigFrame.wpList_want hgd fun _ hK => by
    subst hv
    unfold Oper.wp execOp
    simp only [ho, hx, Instr.loadAt, Instr.sureAddr, Sem.run_bind, Sem.run_pure, Result.andThen_ok, run_loadVar_part w ty g k cs d hc hu hd hi]
    exact hK _ _ h
end
theorem acl_size : (Try.prog.info? 28).map (·.size) = some 7 := by kernel_rfl
theorem attr_size : (Try.prog.info? 31).map (·.size) = some 19 := by kernel_rfl
end Go.Proofs.Ytejhodjbgablaaa
