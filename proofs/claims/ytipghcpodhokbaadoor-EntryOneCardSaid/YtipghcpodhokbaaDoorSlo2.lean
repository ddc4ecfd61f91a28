/- Which slots may be; the words of a slot. -/
import Derived.Test.YtipghcpodhokbaaDoorSEq
import Derived.Test.YtipghcpodhokbaaDoorPackT
import Derived.Test.YtipghcpodhokbaaDoorSumT
import Derived.Test.YtipghcpodhokbaaDoorCel
import Derived.Test.YtipghcpodhokbaaDoorSteps
import Derived.Laws.Rows
import Derived.Laws.CopyOwn
set_option linter.unusedSimpArgs false
set_option linter.unusedVariables false
namespace Go.Proofs.YtipghcpodhokbaaDoor
open Go.RowKit WordMath SumMath
instance GOK_dec (P I B : Int) : Decidable (GOK P I B) := by unfold GOK; infer_instance
/-- A block known whole. -/
def Ob (w : World) (b : Nat) (o : Obj) : Prop := w.heap[b]? = some o
section
variable {w w' : World} {b : Nat} {o : Obj}
theorem Ob.lt (h : Ob w b o) : b < w.heap.size := by
  rcases Nat.lt_or_ge b w.heap.size with hlt | hge
  · exact hlt
  · unfold Ob at h; rw [Array.getElem?_eq_none hge] at h; cases h
theorem Ob.on (h : Ob w b o) (hb : On w w') : Ob w' b o := (Below.block hb b h.lt).trans h
theorem Ob.below {k : Nat} (h : Ob w b o) (hb : Below k w w') (hk : b < k) : Ob w' b o := (hb.block b hk).trans h
theorem Ob.new (w : World) (o : Obj) : Ob (w.alloc o) w.heap.size o := heap_alloc_new w o
theorem Ob.alloc (h : Ob w b o) (o' : Obj) : Ob (w.alloc o') b o := h.on (on_alloc w o')
end
/-- A slot's, a geometry's block. -/
abbrev Sb (w : World) (b : Nat) (x : Slt) : Prop := Ob w b (.cells x.c 23 (0, 0))
abbrev Gb (w : World) (b : Nat) (P I B : Int) : Prop := Ob w b (.cells #[.int .i64 P, .int .i64 I, .int .i64 B] 28 (0, 0))
theorem Sb.cells {w : World} {b : Nat} {x : Slt} (h : Sb w b x) : w.cell? ⟨b, 0, none⟩ = some (.int .i64 x.I) ∧ w.cell? ⟨b, 1, none⟩ = some (.int .u8 x.K) ∧ w.cell? ⟨b, 2, none⟩ = some (.string x.S) := three_cells h
theorem Gb.cells {w : World} {b : Nat} {P I B : Int} (h : Gb w b P I B) : w.cell? ⟨b, 0, none⟩ = some (.int .i64 P) ∧ w.cell? ⟨b, 1, none⟩ = some (.int .i64 I) ∧ w.cell? ⟨b, 2, none⟩ = some (.int .i64 B) := three_cells h
/-- A slot and a geometry, boxed one behind the other. -/
structure Two (w0 w : World) (b : Nat) (x : Slt) (P I B : Int) : Prop where
  on : On w0 w
  slo : Sb w b x
  geo : Gb w (b + 1) P I B
theorem Two.on' {w0 w w' : World} {b : Nat} {x : Slt} {P I B : Int} (h : Two w0 w b x P I B) (hb : On w w') : Two w0 w' b x P I B := ⟨h.on.trans hb, h.slo.on hb, h.geo.on hb⟩
theorem Two.new (w : World) (x : Slt) (P I B : Int) : Two w ((w.alloc (.cells x.c 23)).alloc (.cells #[.int .i64 P, .int .i64 I, .int .i64 B] 28)) w.heap.size x P I B :=
  ⟨on_two _ _ _, (Ob.new w _).alloc _, by have h := Ob.new (w.alloc (.cells x.c 23)) (.cells #[.int .i64 P, .int .i64 I, .int .i64 B] 28); rw [World.size_alloc] at h; exact h⟩
/-- Which slots may be. -/
def mayB (x : Slt) (P I B : Int) : Bool := decide (GOK P I B) && okS x I
set_option maxRecDepth 100000 in
set_option maxHeartbeats 1000000 in
theorem emay_good (x : Slt) (P I B : Int) (w : World) (hg : GOK P I B) : Calls Tryd.prog 14 #[x.v, gv P I B] w fun e w' => e = .returned (.bool (okS x I)) ∧ On w w' := by
  have HG := Lib.hid hg
  have T0 := Lib.hid (Two.new w x P I B)
  clear hg
  unfold okS
  cases hz : isZ x
  case false =>
    have hq := fun W => eqZ hz W
    clear hz
    go_enter Tryd.func14, Tryd.ntmps14
    go_wp2_with (fail)
    refine (check_ok P I B _ HG.out).mono ?_
    rintro e w1 ⟨rfl, hb⟩
    have t1 := T0.out.on' hb
    obtain ⟨x0, x1, x2⟩ := t1.slo.cells
    obtain ⟨g0, g1, g2⟩ := t1.geo.cells
    have l1 := t1.slo.lt
    have l2 := t1.geo.lt
    clear T0 hb
    go_wp2_with (fail)
    refine (full_calls x P I B _).mono ?_
    rintro e w2 ⟨rfl, hb2⟩
    have b2 := t1.on.trans hb2
    clear t1 hb2 x0 x1 x2 g0 g1 g2 l1 l2
    go_wp2_with (fail)
    go_ret
    exact ⟨by simp, b2⟩
  case true =>
    have hq := fun W => eqZ hz W
    clear hz
    go_enter Tryd.func14, Tryd.ntmps14
    go_wp2_with (fail)
    refine (check_ok P I B _ HG.out).mono ?_
    rintro e w1 ⟨rfl, hb⟩
    have t1 := T0.out.on' hb
    obtain ⟨x0, x1, x2⟩ := t1.slo.cells
    obtain ⟨g0, g1, g2⟩ := t1.geo.cells
    have l1 := t1.slo.lt
    have l2 := t1.geo.lt
    have b2 := t1.on
    clear T0 hb
    go_wp2_with (fail)
    go_ret
    exact ⟨by simp, b2⟩
theorem emay_calls (x : Slt) (P I B : Int) (w : World) : Calls Tryd.prog 14 #[x.v, gv P I B] w fun e w' => e = .returned (.bool (mayB x P I B)) ∧ On w w' := by
  by_cases hg : GOK P I B
  · have : mayB x P I B = okS x I := by unfold mayB; rw [decide_eq_true hg, Bool.true_and]
    rw [this]
    exact emay_good x P I B w hg
  · have : mayB x P I B = false := by unfold mayB; rw [decide_eq_false hg, Bool.false_and]
    rw [this]
    have HG := Lib.hid hg
    have T0 := Lib.hid (Two.new w x P I B)
    clear hg this
    go_enter Tryd.func14, Tryd.ntmps14
    go_wp2_with (fail)
    refine (check_bad P I B _ HG.out).mono ?_
    rintro e w1 ⟨rfl, hb⟩
    have b2 := T0.out.on.trans hb
    clear T0 hb
    go_wp2_with (fail)
    go_ret
    exact ⟨by simp, b2⟩
end Go.Proofs.YtipghcpodhokbaaDoor
