/- Why words are no attributes: the three errors, and the places that are told with them. -/
import Derived.Test.YtlejmpinfbmccaaGreatDoorErrT
import Derived.LaidEql
set_option linter.unusedSimpArgs false
set_option linter.unusedVariables false
set_option linter.unusedSimpArgs false
set_option linter.unusedVariables false
namespace Go.Proofs.YtlejmpinfbmccaaGreatDoor
open Go.RowKit Go.Extern.Stop Go.Stop Go.Extern
/-- The three errors' addresses. -/
structure Sn where
  m : Addr
  s : Addr
  w : Addr
def plainAt (W : World) (a : Addr) : Prop := ∃ c t, W.heap[a.block]? = some (.cells c t (0, 0))
/-- The three errors as they are laid. -/
structure SnAt (W : World) (n : Sn) : Prop where
  m : W.cell? ⟨0, 0, none⟩ = some (.iface 172 (.pointer (some n.m)))
  s : W.cell? ⟨1, 0, none⟩ = some (.iface 172 (.pointer (some n.s)))
  w : W.cell? ⟨2, 0, none⟩ = some (.iface 172 (.pointer (some n.w)))
  ms : n.m ≠ n.s
  mw : n.m ≠ n.w
  sw : n.s ≠ n.w
  pm : plainAt W n.m
  ps : plainAt W n.s
  pw : plainAt W n.w
theorem cell_lt {W : World} {a : Addr} {v : Value} (h : W.cell? a = some v) : a.block < W.heap.size := by
  rcases Nat.lt_or_ge a.block W.heap.size with h' | h'
  · exact h'
  · simp [World.cell?, Array.getElem?_eq_none h'] at h
theorem plainAt.lt {W : World} {a : Addr} (h : plainAt W a) : a.block < W.heap.size := by
  obtain ⟨c, t, h⟩ := h
  rcases Nat.lt_or_ge a.block W.heap.size with h2 | h2
  · exact h2
  · rw [Array.getElem?_eq_none h2] at h; cases h
theorem plainAt.below {W W' : World} {a : Addr} (h : plainAt W a) (hb : Below W.heap.size W W') : plainAt W' a := by
  have hl := h.lt
  obtain ⟨c, t, h⟩ := h
  exact ⟨c, t, (hb.block _ hl).trans h⟩
theorem SnAt.below {W W' : World} {n : Sn} (h : SnAt W n) (hb : Below W.heap.size W W') : SnAt W' n :=
  ⟨(hb.cell (p := ⟨0, 0, none⟩) (cell_lt h.m)).trans h.m, (hb.cell (p := ⟨1, 0, none⟩) (cell_lt h.s)).trans h.s, (hb.cell (p := ⟨2, 0, none⟩) (cell_lt h.w)).trans h.w,
    h.ms, h.mw, h.sw, h.pm.below hb, h.ps.below hb, h.pw.below hb⟩
/-- Which of the three; its place. -/
def whyA (n : Sn) (k : Nat) : Addr := if k = 0 then n.m else if k = 31 then n.s else n.w
def whyV (n : Sn) (k : Nat) : Value := .iface 172 (.pointer (some (whyA n k)))
def errVA (n : Sn) : Option Nat → Value
  | none => .nilIface
  | some k => .iface 78 (.agg #[whyV n k])
def isBad (k : Nat) : Prop := k = 0 ∨ k = 31 ∨ k = 1
theorem Tryz.noIsP (v : Value) (xT : TypeId) (w : World) : (Instr.typeAssert (.iface 172 v) xT 160 true).run Tryz.prog w = .ok (.tuple #[.nilIface, .bool false]) w := run_typeAssert_lacksB Tryz.underlying160 (by kernel_rfl) (by kernel_rfl) v xT w
theorem Tryz.noUnwrapP (v : Value) (xT : TypeId) (w : World) : (Instr.typeAssert (.iface 172 v) xT 155 true).run Tryz.prog w = .ok (.tuple #[.nilIface, .bool false]) w := run_typeAssert_lacksB Tryz.underlying155 (by kernel_rfl) (by kernel_rfl) v xT w
theorem Tryz.noUnwrapsP (v : Value) (xT : TypeId) (w : World) : (Instr.typeAssert (.iface 172 v) xT 157 true).run Tryz.prog w = .ok (.tuple #[.nilIface, .bool false]) w := run_typeAssert_lacksB Tryz.underlying157 (by kernel_rfl) (by kernel_rfl) v xT w
theorem Tryz.typeOfP (v : Value) (w : World) : (ReflectliteType.typeOf #[.iface 172 v]).run Tryz.prog w = .ok (.iface 148 (.agg #[.pointer (some ⟨6, 172, none⟩)])) w := by kernel_rfl
theorem Tryz.comparableP (w : World) : ((ReflectliteType.method fun t => do Rtype.noPackHeld "Comparable" t; (fun a => Value.bool a.comparable) <$> typeInfo t) #[.agg #[.pointer (some ⟨6, 172, none⟩)]]).run Tryz.prog w = .ok (.bool true) w := by kernel_rfl
theorem Tryz.compP : (Tryz.prog.info? 172).map (·.comparable) = some true := by kernel_rfl
theorem Tryz.sizeS : (Tryz.prog.info? 193).map (·.size) = some 1 := by kernel_rfl
theorem eql_same (a : Addr) (w : World) : (binOp .eql 45 (.iface 172 (.pointer (some a))) (.iface 172 (.pointer (some a)))).run Tryz.prog w = .ok (.bool true) w := by
  obtain ⟨i, hi, hc⟩ := Option.map_eq_some_iff.1 Tryz.compP
  obtain ⟨j, hj, _⟩ := Option.map_eq_some_iff.1 Tryz.sizeS
  exact run_eql_iface_ptr_same w a Tryz.underlying45 Tryz.underlying172 hi hc hj
theorem eql_other {a b : Addr} (w : World) (hne : a ≠ b) (ha : plainAt w a) (hb : plainAt w b) : (binOp .eql 45 (.iface 172 (.pointer (some a))) (.iface 172 (.pointer (some b)))).run Tryz.prog w = .ok (.bool false) w := by
  obtain ⟨i, hi, hc⟩ := Option.map_eq_some_iff.1 Tryz.compP
  obtain ⟨j, hj, hs⟩ := Option.map_eq_some_iff.1 Tryz.sizeS
  obtain ⟨ca, ta, ha⟩ := ha
  obtain ⟨cb, tb, hb⟩ := hb
  exact run_eql_iface_ptr_other w Tryz.underlying45 Tryz.underlying172 hi hc hj (by omega) hne ha hb
set_option maxRecDepth 100000 in
set_option maxHeartbeats 4000000 in
theorem is_same (a : Addr) (w : World) :
    Calls Tryz.prog 51 #[.iface 172 (.pointer (some a)), .iface 172 (.pointer (some a))] w fun ev w' => ev = .returned (.bool true) ∧ w = w' := by
  have h44 := @run_callFunc_extern Tryz.prog 82 _ ReflectliteType.typeOf Tryz.func82 (by kernel_rfl) (by kernel_rfl) (by kernel_rfl) (by kernel_rfl)
  have h82 := @run_callFunc_extern Tryz.prog 143 _ (ReflectliteType.method fun t => do Rtype.noPackHeld "Comparable" t; pure (.bool (← typeInfo t).comparable)) Tryz.func143 (by kernel_rfl) (by kernel_rfl) (by kernel_rfl) (by kernel_rfl)
  have tE := Tryz.typeOfP
  have cE := Tryz.comparableP
  have mC := Tryz.methodComparable
  have q1 := fun W => eql_same a W
  go_enter Tryz.func51, Tryz.ntmps51
  go_wp2
  refine wp_loop_rounds 1 ?_
  rw [rounds_succ]
  go_wp2
  go_ret
  exact ⟨rfl, rfl⟩
set_option maxRecDepth 100000 in
set_option maxHeartbeats 4000000 in
theorem is_other {a b : Addr} (w : World) (hne : a ≠ b) (ha : plainAt w a) (hb : plainAt w b) :
    Calls Tryz.prog 51 #[.iface 172 (.pointer (some a)), .iface 172 (.pointer (some b))] w fun ev w' => ev = .returned (.bool false) ∧ w = w' := by
  have h44 := @run_callFunc_extern Tryz.prog 82 _ ReflectliteType.typeOf Tryz.func82 (by kernel_rfl) (by kernel_rfl) (by kernel_rfl) (by kernel_rfl)
  have h82 := @run_callFunc_extern Tryz.prog 143 _ (ReflectliteType.method fun t => do Rtype.noPackHeld "Comparable" t; pure (.bool (← typeInfo t).comparable)) Tryz.func143 (by kernel_rfl) (by kernel_rfl) (by kernel_rfl) (by kernel_rfl)
  have tE := Tryz.typeOfP
  have cE := Tryz.comparableP
  have mC := Tryz.methodComparable
  have nI := Tryz.noIsP
  have nU := Tryz.noUnwrapP
  have nUs := Tryz.noUnwrapsP
  have q1 := eql_other w hne ha hb
  clear hne ha hb
  go_enter Tryz.func51, Tryz.ntmps51
  go_wp2
  refine wp_loop_rounds 1 ?_
  rw [rounds_succ]
  go_wp2
  go_ret
  exact ⟨rfl, rfl⟩
theorem place_calls (n : Sn) (k : Nat) (w : World) (hS : SnAt w n) (hk : isBad k) :
    Calls Tryz.prog 137 #[whyV n k] w fun e w' => e = .returned (.int .i64 (k : Nat)) ∧ w = w' := by
  have y0 := hS.m
  have y1 := hS.s
  have HS := Lib.hid hS
  clear hS
  rcases hk with rfl | rfl | rfl
  · have c1 := is_same n.m w
    unfold whyV whyA
    simp only [if_true]
    go_enter Tryz.func137, Tryz.ntmps137
    go_wp2_with (fail)
    refine c1.mono ?_
    rintro e w1 ⟨rfl, rfl⟩
    go_wp2_with (fail)
    go_ret
    exact ⟨rfl, rfl⟩
  · have c1 := is_other w HS.out.ms.symm HS.out.ps HS.out.pm
    have c2 := is_same n.s w
    unfold whyV whyA
    simp only [Nat.reduceEqDiff, if_false, if_true]
    go_enter Tryz.func137, Tryz.ntmps137
    go_wp2_with (fail)
    refine c1.mono ?_
    rintro e w1 ⟨rfl, rfl⟩
    go_wp2_with (fail)
    refine c2.mono ?_
    rintro e w1 ⟨rfl, rfl⟩
    go_wp2_with (fail)
    go_ret
    exact ⟨rfl, rfl⟩
  · have c1 := is_other w HS.out.mw.symm HS.out.pw HS.out.pm
    have c2 := is_other w HS.out.sw.symm HS.out.pw HS.out.ps
    unfold whyV whyA
    simp only [Nat.reduceEqDiff, if_false]
    go_enter Tryz.func137, Tryz.ntmps137
    go_wp2_with (fail)
    refine c1.mono ?_
    rintro e w1 ⟨rfl, rfl⟩
    go_wp2_with (fail)
    refine c2.mono ?_
    rintro e w1 ⟨rfl, rfl⟩
    go_wp2_with (fail)
    go_ret
    exact ⟨rfl, rfl⟩
theorem unwrapM (n : Sn) (k : Nat) (w : World) (hS : SnAt w n) (hk : isBad k) : Calls Tryz.prog 136 #[.agg #[whyV n k]] w fun e w' => e = .returned (.iface 60 (.agg #[.int .i64 (k : Nat), .int .i64 7])) ∧ w' = w.alloc (.cells #[whyV n k] 78) := by
  have c := place_calls n k (w.alloc (.cells #[whyV n k] 78)) (hS.below ((Below.refl _ _).alloc (Nat.le_refl _) _)) hk
  have HC := Lib.hid c
  clear c hS hk
  generalize whyV n k = v at *
  go_enter Tryz.func136, Tryz.ntmps136
  go_wp2_with (fail)
  refine HC.out.mono ?_
  rintro e w1 ⟨rfl, rfl⟩
  go_wp2_with (fail)
  go_ret
  exact ⟨rfl, rfl⟩
end Go.Proofs.YtlejmpinfbmccaaGreatDoor
