/- Why words are no slot: the errors that the program lays, errors.Is at them, Told. -/
import Derived.Test.YtlfpjfijlngpcaaDoorErr2
import Derived.Test.YtlfpjfijlngpcaaDoorCel
import Derived.LaidEql
set_option linter.unusedSimpArgs false
set_option linter.unusedVariables false
namespace Go.Proofs.YtlfpjfijlngpcaaDoor
open Go.RowKit Go.Extern.Stop Go.Stop Go.Extern
/-- The four errors' addresses: nothing is committed, another length, another commit word, no such place. -/
structure Sn where
  c : Addr
  l : Addr
  m : Addr
  a : Addr
/-- An error of the package's own. -/
def pV (x : Addr) : Value := .iface 111 (.pointer (some x))
/-- The four errors as they are laid. -/
structure SnAt (W : World) (n : Sn) : Prop where
  c : W.cell? ⟨0, 0, none⟩ = some (pV n.c)
  l : W.cell? ⟨1, 0, none⟩ = some (pV n.l)
  m : W.cell? ⟨2, 0, none⟩ = some (pV n.m)
  a : W.cell? ⟨3, 0, none⟩ = some (pV n.a)
theorem cell_lt {W : World} {a : Addr} {v : Value} (h : W.cell? a = some v) : a.block < W.heap.size := by
  rcases Nat.lt_or_ge a.block W.heap.size with h' | h'
  · exact h'
  · simp [World.cell?, Array.getElem?_eq_none h'] at h
theorem SnAt.below {W W' : World} {n : Sn} (h : SnAt W n) (hb : Below W.heap.size W W') : SnAt W' n :=
  ⟨(hb.cell (p := ⟨0, 0, none⟩) (cell_lt h.c)).trans h.c, (hb.cell (p := ⟨1, 0, none⟩) (cell_lt h.l)).trans h.l, (hb.cell (p := ⟨2, 0, none⟩) (cell_lt h.m)).trans h.m, (hb.cell (p := ⟨3, 0, none⟩) (cell_lt h.a)).trans h.a⟩
/-- A misfit, told why. -/
def mV (x : Addr) : Value := .iface 67 (.agg #[pV x])
theorem Tryd.noIsP (v : Value) (xT : TypeId) (w : World) : (Instr.typeAssert (.iface 111 v) xT 94 true).run Tryd.prog w = .ok (.tuple #[.nilIface, .bool false]) w := run_typeAssert_lacksB Tryd.underlying94 (by kernel_rfl) (by kernel_rfl) v xT w
theorem Tryd.noUnwrapP (v : Value) (xT : TypeId) (w : World) : (Instr.typeAssert (.iface 111 v) xT 97 true).run Tryd.prog w = .ok (.tuple #[.nilIface, .bool false]) w := run_typeAssert_lacksB Tryd.underlying97 (by kernel_rfl) (by kernel_rfl) v xT w
theorem Tryd.noUnwrapsP (v : Value) (xT : TypeId) (w : World) : (Instr.typeAssert (.iface 111 v) xT 99 true).run Tryd.prog w = .ok (.tuple #[.nilIface, .bool false]) w := run_typeAssert_lacksB Tryd.underlying99 (by kernel_rfl) (by kernel_rfl) v xT w
theorem Tryd.typeOfP (v : Value) (w : World) : (ReflectliteType.typeOf #[.iface 111 v]).run Tryd.prog w = .ok (.iface 92 (.agg #[.pointer (some ⟨6, 111, none⟩)])) w := by kernel_rfl
theorem Tryd.comparableP (w : World) : ((ReflectliteType.method fun t => do Rtype.noPackHeld "Comparable" t; (fun a => Value.bool a.comparable) <$> typeInfo t) #[.agg #[.pointer (some ⟨6, 111, none⟩)]]).run Tryd.prog w = .ok (.bool true) w := by kernel_rfl
theorem Tryd.compP : (Tryd.prog.info? 111).map (·.comparable) = some true := by kernel_rfl
theorem Tryd.sizeS : (Tryd.prog.info? 132).map (·.size) = some 1 := by kernel_rfl
theorem eql_same (a : Addr) (w : World) : (binOp .eql 41 (.iface 111 (.pointer (some a))) (.iface 111 (.pointer (some a)))).run Tryd.prog w = .ok (.bool true) w := by
  obtain ⟨i, hi, hc⟩ := Option.map_eq_some_iff.1 Tryd.compP
  obtain ⟨j, hj, _⟩ := Option.map_eq_some_iff.1 Tryd.sizeS
  exact run_eql_iface_ptr_same w a Tryd.underlying41 Tryd.underlying111 hi hc hj
set_option maxRecDepth 100000 in
set_option maxHeartbeats 4000000 in
/-- errors.Is of an error and itself. -/
theorem is_same (a : Addr) (w : World) :
    Calls Tryd.prog 25 #[pV a, pV a] w fun ev w' => ev = .returned (.bool true) ∧ w = w' := by
  unfold pV
  have h44 := @run_callFunc_extern Tryd.prog 31 _ ReflectliteType.typeOf Tryd.func31 (by kernel_rfl) (by kernel_rfl) (by kernel_rfl) (by kernel_rfl)
  have h82 := @run_callFunc_extern Tryd.prog 72 _ (ReflectliteType.method fun t => do Rtype.noPackHeld "Comparable" t; pure (.bool (← typeInfo t).comparable)) Tryd.func72 (by kernel_rfl) (by kernel_rfl) (by kernel_rfl) (by kernel_rfl)
  have tE := Tryd.typeOfP
  have cE := Tryd.comparableP
  have mC := Tryd.methodComparable
  have q1 := fun W => eql_same a W
  go_enter Tryd.func25, Tryd.ntmps25
  go_wp2
  refine wp_loop_rounds 1 ?_
  rw [rounds_succ]
  go_wp2
  go_ret
  exact ⟨rfl, rfl⟩
set_option maxRecDepth 100000 in
set_option maxHeartbeats 4000000 in
/-- errors.Is of such an error and a number: no. -/
theorem is_clear (a : Addr) (w : World) :
    Calls Tryd.prog 25 #[pV a, .iface 27 (.int .i64 7)] w fun ev w' => ev = .returned (.bool false) ∧ w = w' := by
  unfold pV
  have h44 := @run_callFunc_extern Tryd.prog 31 _ ReflectliteType.typeOf Tryd.func31 (by kernel_rfl) (by kernel_rfl) (by kernel_rfl) (by kernel_rfl)
  have h82 := @run_callFunc_extern Tryd.prog 72 _ (ReflectliteType.method fun t => do Rtype.noPackHeld "Comparable" t; pure (.bool (← typeInfo t).comparable)) Tryd.func72 (by kernel_rfl) (by kernel_rfl) (by kernel_rfl) (by kernel_rfl)
  have tE := Tryd.typeOfE
  have cE := Tryd.comparableE
  have mC := Tryd.methodComparable
  have nI := Tryd.noIsP
  have nU := Tryd.noUnwrapP
  have nUs := Tryd.noUnwrapsP
  have q1 := fun W => run_eql_iface_types (P := Tryd.prog) 111 27 (.pointer (some a)) (.int .i64 7) Tryd.underlying41 (by decide) W
  go_enter Tryd.func25, Tryd.ntmps25
  go_wp2
  refine wp_loop_rounds 1 ?_
  rw [rounds_succ]
  go_wp2
  go_ret
  exact ⟨rfl, rfl⟩
set_option maxRecDepth 100000 in
/-- errors.Is of no error, and some. -/
theorem is_nilE (w : World) :
    Calls Tryd.prog 25 #[.nilIface, .iface 27 (.int .i64 7)] w fun ev w' => ev = .returned (.bool false) ∧ w = w' := by
  have q1 := fun W => run_eql_iface_nil_left (P := Tryd.prog) (w := W) 27 (.int .i64 7) Tryd.underlying41
  go_enter Tryd.func25, Tryd.ntmps25
  go_wp2
  go_ret
  exact ⟨rfl, rfl⟩
set_option maxRecDepth 100000 in
theorem is_nilP (a : Addr) (w : World) :
    Calls Tryd.prog 25 #[.nilIface, pV a] w fun ev w' => ev = .returned (.bool false) ∧ w = w' := by
  unfold pV
  have q1 := fun W => run_eql_iface_nil_left (P := Tryd.prog) (w := W) 111 (.pointer (some a)) Tryd.underlying41
  go_enter Tryd.func25, Tryd.ntmps25
  go_wp2
  go_ret
  exact ⟨rfl, rfl⟩
theorem unwrapM (v : Value) (w : World) : Calls Tryd.prog 66 #[.agg #[v]] w fun e w' => e = .returned (.iface 52 (.agg #[.int .i64 0, .int .i64 7])) ∧ w' = w.alloc (.cells #[v] 67) := by
  go_enter Tryd.func66, Tryd.ntmps66
  go_wp2
  go_ret
  exact ⟨rfl, rfl⟩
theorem is_form (x : Addr) (w : World) :
    Calls Tryd.prog 25 #[mV x, .iface 27 (.int .i64 7)] w fun ev w' => ev = .returned (.bool true) ∧ Below w.heap.size w w' :=
  is_M 0 (pV x) w fun W _ => unwrapM (pV x) W
theorem two_cells {w0 : World} {B : Nat} {x y : Value} {t : TypeId} (hw : w0.heap[B]? = some (.cells #[x, y] t (0, 0))) : w0.cell? ⟨B, 0, none⟩ = some x ∧ w0.cell? ⟨B, 1, none⟩ = some y :=
  ⟨cell_of_row w0 B 0 _ t (0, 0) hw, cell_of_row w0 B 1 _ t (0, 0) hw⟩
/-- What Read tells, and what the document's own does. -/
def errR (x : Addr) (e : Int) : Value := if e = 0 then .nilIface else mV x
def fR (e : Int) : Value := .agg #[.int .i64 0, .int .i64 e]
theorem told_none (w : World) : Calls Tryd.prog 20 #[.nilIface, fR 0] w fun e w' => e = .returned (.bool true) ∧ Below w.heap.size w w' := by
  unfold fR
  go_enter Tryd.func20, Tryd.ntmps20
  go_wp2
  go_ret
  exact ⟨rfl, (Below.refl _ _).alloc (Nat.le_refl _) _⟩
set_option maxRecDepth 100000 in
set_option maxHeartbeats 1000000 in
theorem told_some (x : Addr) (w : World) (hE : ErrAt w) : Calls Tryd.prog 20 #[mV x, fR 7] w fun e w' => e = .returned (.bool true) ∧ Below w.heap.size w w' := by
  show Calls Tryd.prog 20 #[.iface 67 (.agg #[pV x]), .agg #[.int .i64 0, .int .i64 7]] w fun e w' => e = .returned (.bool true) ∧ Below w.heap.size w w'
  have hon : Below w.heap.size w ((w.alloc (.cells #[.int .i64 0, .int .i64 7] 52)).alloc (.cells #[.int .i64 0, .int .i64 0] 52)) := ((Below.refl _ _).alloc (Nat.le_refl _) _).alloc (by simp) _
  have h2 : ((w.alloc (.cells #[.int .i64 0, .int .i64 7] 52)).alloc (.cells #[.int .i64 0, .int .i64 0] 52)).heap[w.heap.size + 1]? = some (.cells #[.int .i64 0, .int .i64 0] 52) := by
    have := heap_alloc_new (w.alloc (.cells #[.int .i64 0, .int .i64 7] 52)) (.cells #[.int .i64 0, .int .i64 0] 52)
    rwa [World.size_alloc] at this
  have h1 : ((w.alloc (.cells #[.int .i64 0, .int .i64 7] 52)).alloc (.cells #[.int .i64 0, .int .i64 0] 52)).heap[w.heap.size]? = some (.cells #[.int .i64 0, .int .i64 7] 52) :=
    (Below.heap_alloc _ _ _ (by simp)).trans (heap_alloc_new w _)
  have hA := Lib.hid (as_MF 0 (pV x) (.int .i64 0) (.int .i64 0) 52 (w.heap.size + 1) _ (fun W _ => unwrapM (pV x) W) (hE.below hon) h2)
  have h1 := Lib.hid h1
  have hon := Lib.hid hon
  have HI := Lib.hid (fun W => is_form x W)
  unfold mV at HI
  clear h2 hE
  obtain ⟨v, hv⟩ : ∃ v, pV x = v := ⟨_, rfl⟩
  rw [hv] at hA HI ⊢
  clear hv
  go_enter Tryd.func20, Tryd.ntmps20
  go_wp2_with (fail)
  refine hA.out.mono ?_
  clear hA
  rintro e w2 ⟨rfl, hb2, hm2⟩
  have h12 := (hb2.block w.heap.size (by omega)).trans h1.out
  obtain ⟨a0, a1⟩ := two_cells h12
  obtain ⟨m0, m1⟩ := two_cells hm2
  have l1 := lt_of_cells h12
  have l2 := lt_of_cells hm2
  have bw2 := Below.trans hon.out (hb2.mono (by omega))
  have HBW := Lib.hid bw2
  clear hb2 hm2 h12 h1 hon bw2
  go_wp2_with (fail)
  refine (HI.out _).mono ?_
  rintro e w3 ⟨rfl, hb3⟩
  go_wp2_with (fail)
  go_ret
  exact ⟨rfl, HBW.out.trans (hb3.mono HBW.out.size)⟩
theorem told_calls (x : Addr) (E : Int) (w : World) (hE : ErrAt w) (h : E = 0 ∨ E = 7) : Calls Tryd.prog 20 #[errR x E, fR E] w fun e w' => e = .returned (.bool true) ∧ Below w.heap.size w w' := by
  rcases h with rfl | rfl
  · exact told_none w
  · exact told_some x w hE
end Go.Proofs.YtlfpjfijlngpcaaDoor
