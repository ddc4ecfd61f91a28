/- errors.As at an error that wraps a Fault; errors.Is at an error's number; Unwrap. -/
import Derived.Test.YtlfpjfijlngpcaaDoorErr1
set_option linter.unusedSimpArgs false
set_option linter.unusedVariables false
namespace Go.Proofs.YtlfpjfijlngpcaaDoor
open Go.RowKit Go.Extern.Stop Go.Stop Go.Extern
theorem unwrapF (k n : Int) (w : World) : Calls Tryd.prog 64 #[.agg #[.int .i64 k, .int .i64 n]] w fun e w' => e = .returned (.iface 27 (.int .i64 n)) ∧ w' = w.alloc (.cells #[.int .i64 k, .int .i64 n] 52) := by
  go_enter Tryd.func64, Tryd.ntmps64
  go_wp2
  go_ret
  exact ⟨rfl, rfl⟩
theorem Tryd.noAsM (v : Value) (xT : TypeId) (w : World) : (Instr.typeAssert (.iface 67 v) xT 104 true).run Tryd.prog w = .ok (.tuple #[.nilIface, .bool false]) w := run_typeAssert_lacksB Tryd.underlying104 (by kernel_rfl) (by kernel_rfl) v xT w
theorem Tryd.hasUnwrapM (v : Value) (xT : TypeId) (w : World) : (Instr.typeAssert (.iface 67 v) xT 97 true).run Tryd.prog w = .ok (.tuple #[.iface 67 v, .bool true]) w := run_typeAssert_hasB Tryd.underlying97 (by kernel_rfl) v xT w
theorem Tryd.methodUnwrapM (v : Value) (w : World) : (Go.method 243 67 v "Unwrap").run Tryd.prog w = .ok (66, v) w := by kernel_rfl
theorem Tryd.noIsM (v : Value) (xT : TypeId) (w : World) : (Instr.typeAssert (.iface 67 v) xT 94 true).run Tryd.prog w = .ok (.tuple #[.nilIface, .bool false]) w := run_typeAssert_lacksB Tryd.underlying94 (by kernel_rfl) (by kernel_rfl) v xT w
theorem Tryd.noIsF (v : Value) (xT : TypeId) (w : World) : (Instr.typeAssert (.iface 52 v) xT 94 true).run Tryd.prog w = .ok (.tuple #[.nilIface, .bool false]) w := run_typeAssert_lacksB Tryd.underlying94 (by kernel_rfl) (by kernel_rfl) v xT w
theorem Tryd.hasUnwrapF (v : Value) (xT : TypeId) (w : World) : (Instr.typeAssert (.iface 52 v) xT 97 true).run Tryd.prog w = .ok (.tuple #[.iface 52 v, .bool true]) w := run_typeAssert_hasB Tryd.underlying97 (by kernel_rfl) v xT w
theorem Tryd.methodUnwrapF (v : Value) (w : World) : (Go.method 243 52 v "Unwrap").run Tryd.prog w = .ok (64, v) w := by kernel_rfl
theorem Tryd.assignableMF (w : World) : (ReflectliteType.relation "AssignableTo" ReflectliteType.assignableTo #[.agg #[.pointer (some ⟨6, 67, none⟩)], .iface 92 (.agg #[.pointer (some ⟨6, 52, none⟩)])]).run Tryd.prog w = .ok (.bool false) w := by kernel_rfl
theorem Tryd.typeOfE (v : Value) (w : World) : (ReflectliteType.typeOf #[.iface 27 v]).run Tryd.prog w = .ok (.iface 92 (.agg #[.pointer (some ⟨6, 27, none⟩)])) w := by kernel_rfl
theorem Tryd.comparableE (w : World) : ((ReflectliteType.method fun t => do Rtype.noPackHeld "Comparable" t; (fun a => Value.bool a.comparable) <$> typeInfo t) #[.agg #[.pointer (some ⟨6, 27, none⟩)]]).run Tryd.prog w = .ok (.bool true) w := by kernel_rfl
theorem Tryd.compE : (Tryd.prog.info? 27).map (·.comparable) = some true := by kernel_rfl
/-- Two numbers of errors, as errors: the same where the numbers are. -/
theorem eql_errno (m n : Int) (w : World) : (binOp .eql 41 (.iface 27 (.int .i64 m)) (.iface 27 (.int .i64 n))).run Tryd.prog w = .ok (.bool (m == n)) w := by
  obtain ⟨i, hi, hc⟩ := Option.map_eq_some_iff.1 Tryd.compE
  have h : ∀ d : Nat, (Op.equalIn (d + 2) 41 (.iface 27 (.int .i64 m)) (.iface 27 (.int .i64 n))).run Tryd.prog w = .ok (m == n) w := fun d => by
    simp [Op.equalIn, run_underlying Tryd.underlying41, run_underlying Tryd.underlying27, typeInfo, hi, hc]
  simp only [binOp]
  simp [Op.equal, Op.maxDepth, h 9998]
set_option maxRecDepth 100000 in
set_option maxHeartbeats 4000000 in
/-- errors.As at a misfit, for a Fault: the one that it wraps. -/
theorem as_MF (k : Int) (v : Value) (o0 o1 : Value) (tt : TypeId) (tb : Nat) (w : World) (hUn : ∀ W, Below w.heap.size w W → Calls Tryd.prog 66 #[.agg #[v]] W fun e w' => e = .returned (.iface 52 (.agg #[.int .i64 k, .int .i64 7])) ∧ w' = W.alloc (.cells #[v] 67)) (hE : ErrAt w) (ht : w.heap[tb]? = some (.cells #[o0, o1] tt (0, 0))) :
    Calls Tryd.prog 26 #[.iface 67 (.agg #[v]), .iface 62 (.pointer (some ⟨tb, 0, none⟩))] w fun ev w' => ev = .returned (.bool true) ∧ Below tb w w' ∧ w'.heap[tb]? = some (.cells #[.int .i64 k, .int .i64 7] tt (0, 0)) := by
  have h35 := @run_callFunc_extern Tryd.prog 33 _ (fun args => ReflectliteValue.unpack (args.getD 0 (.tuple #[]))) Tryd.func33 (by kernel_rfl) (by kernel_rfl) (by kernel_rfl) (by kernel_rfl)
  have h36 := @run_callFunc_extern Tryd.prog 34 _ (ReflectliteValue.methodAny (ReflectliteValue.valueError "reflectlite.Value.Type" 0) (fun t _ _ _ => ReflectliteType.toType t)) Tryd.func34 (by kernel_rfl) (by kernel_rfl) (by kernel_rfl) (by kernel_rfl)
  have h37 := @run_callFunc_extern Tryd.prog 35 _ (ReflectliteValue.method (ReflectliteValue.valueError "reflectlite.Value.IsNil" 0) ReflectliteValue.isNil) Tryd.func35 (by kernel_rfl) (by kernel_rfl) (by kernel_rfl) (by kernel_rfl)
  have h69 := @run_callFunc_extern Tryd.prog 59 _ (ReflectliteType.abiMethod fun t => do pure (.int .u8 (← Rtype.kind t))) Tryd.func59 (by kernel_rfl) (by kernel_rfl) (by kernel_rfl) (by kernel_rfl)
  have h83 := @run_callFunc_extern Tryd.prog 73 _ (ReflectliteType.method ReflectliteType.elem) Tryd.func73 (by kernel_rfl) (by kernel_rfl) (by kernel_rfl) (by kernel_rfl)
  have h84 := @run_callFunc_extern Tryd.prog 74 _ (ReflectliteType.relation "Implements" ReflectliteType.implements_) Tryd.func74 (by kernel_rfl) (by kernel_rfl) (by kernel_rfl) (by kernel_rfl)
  have h44 := @run_callFunc_extern Tryd.prog 31 _ ReflectliteType.typeOf Tryd.func31 (by kernel_rfl) (by kernel_rfl) (by kernel_rfl) (by kernel_rfl)
  have h81 := @run_callFunc_extern Tryd.prog 71 _ (ReflectliteType.relation "AssignableTo" ReflectliteType.assignableTo) Tryd.func71 (by kernel_rfl) (by kernel_rfl) (by kernel_rfl) (by kernel_rfl)
  have h49 := @run_callFunc_extern Tryd.prog 40 _ (ReflectliteValue.method (ReflectliteValue.valueError "reflectlite.Value.Elem" 0) ReflectliteValue.elem) Tryd.func40 (by kernel_rfl) (by kernel_rfl) (by kernel_rfl) (by kernel_rfl)
  have h50 := @run_callFunc_extern Tryd.prog 41 _ ReflectliteValue.set Tryd.func41 (by kernel_rfl) (by kernel_rfl) (by kernel_rfl) (by kernel_rfl)
  have h1 : ∀ v ∈ [Value.int .i64 k, Value.int .i64 7], v.oneCell' = true := by intro v hv; simp at hv; rcases hv with rfl | rfl <;> rfl
  have tM := Tryd.typeOfM
  have tO := Tryd.typeOfF
  have mA := Tryd.methodAssignableTo
  have aM := Tryd.assignableMF
  have aN := Tryd.assignableF
  have nA := Tryd.noAsM
  have hU := Tryd.hasUnwrapM
  have mU := Tryd.methodUnwrapM
  have vN := Tryd.valueOfF
  have f6 := Tryd.valueOfPF
  have f7 := Tryd.typePF
  have mK := Tryd.methodKind
  have mE := Tryd.methodElem
  have mI := Tryd.methodImplements
  have kP := Tryd.kindPF
  have kN := Tryd.kindF
  have eP := Tryd.elemPF
  have iN := Tryd.implementsF
  have hlt := hE.lt
  have htl : tb < w.heap.size := by
    rcases Nat.lt_or_ge tb w.heap.size with h | h
    · exact h
    · rw [Array.getElem?_eq_none h] at ht; cases ht
  have n8 := Tryd.isNilPF ⟨w.heap.size, 0, none⟩ ⟨tb, 0, none⟩ ((w.alloc (.cells #[.pointer (some ⟨tb, 0, none⟩)] 62)).alloc (.cells #[.pointer (some ⟨6, 62, none⟩), .pointer (some ⟨w.heap.size, 0, none⟩), .int .u64 150] 77)) (by simp)
  have hg2 : ((w.alloc (.cells #[.pointer (some ⟨tb, 0, none⟩)] 62)).alloc (.cells #[.pointer (some ⟨6, 62, none⟩), .pointer (some ⟨w.heap.size, 0, none⟩), .int .u64 150] 77)).cell? ⟨4, 0, none⟩ = some (.iface 92 (.agg #[.pointer (some ⟨6, 41, none⟩)])) := by
    rw [World.cell?_alloc_lt _ _ ⟨4, 0, none⟩ (by simp <;> omega), World.cell?_alloc_lt _ _ ⟨4, 0, none⟩ hlt]; exact hE
  have el := Tryd.elemVPF ⟨w.heap.size, 0, none⟩ ⟨tb, 0, none⟩ ((((w.alloc (.cells #[.pointer (some ⟨tb, 0, none⟩)] 62)).alloc (.cells #[.pointer (some ⟨6, 62, none⟩), .pointer (some ⟨w.heap.size, 0, none⟩), .int .u64 150] 77)).alloc (.cells #[.pointer (some ⟨6, 62, none⟩), .pointer (some ⟨w.heap.size, 0, none⟩), .int .u64 150] 77)).alloc (.cells #[v] 67)) (by rw [World.cell?_alloc_lt _ _ ⟨w.heap.size, 0, none⟩ (by simp <;> omega), World.cell?_alloc_lt _ _ ⟨w.heap.size, 0, none⟩ (by simp <;> omega)]; simp)
  have ht5 : (((((w.alloc (.cells #[.pointer (some ⟨tb, 0, none⟩)] 62)).alloc (.cells #[.pointer (some ⟨6, 62, none⟩), .pointer (some ⟨w.heap.size, 0, none⟩), .int .u64 150] 77)).alloc (.cells #[.pointer (some ⟨6, 62, none⟩), .pointer (some ⟨w.heap.size, 0, none⟩), .int .u64 150] 77)).alloc (.cells #[v] 67)).alloc (.cells #[.int .i64 k, .int .i64 7] 52)).heap[tb]? = some (.cells #[o0, o1] tt (0, 0)) := by
    rw [heap_old (by simp <;> omega), heap_old (by simp <;> omega), heap_old (by simp <;> omega), heap_old (by simp <;> omega), heap_old htl]; exact ht
  have st := Tryd.setF tb (w.heap.size + 1 + 1 + 1 + 1) [.int .i64 k, .int .i64 7] [o0, o1] 52 tt (0, 0) (((((w.alloc (.cells #[.pointer (some ⟨tb, 0, none⟩)] 62)).alloc (.cells #[.pointer (some ⟨6, 62, none⟩), .pointer (some ⟨w.heap.size, 0, none⟩), .int .u64 150] 77)).alloc (.cells #[.pointer (some ⟨6, 62, none⟩), .pointer (some ⟨w.heap.size, 0, none⟩), .int .u64 150] 77)).alloc (.cells #[v] 67)).alloc (.cells #[.int .i64 k, .int .i64 7] 52)) rfl rfl h1 (by rw [heap_new' (by simp)]) ht5
  have hB : Below tb w (((((w.alloc (.cells #[.pointer (some ⟨tb, 0, none⟩)] 62)).alloc (.cells #[.pointer (some ⟨6, 62, none⟩), .pointer (some ⟨w.heap.size, 0, none⟩), .int .u64 150] 77)).alloc (.cells #[.pointer (some ⟨6, 62, none⟩), .pointer (some ⟨w.heap.size, 0, none⟩), .int .u64 150] 77)).alloc (.cells #[v] 67)).alloc (.cells #[.int .i64 k, .int .i64 7] 52)) := (((((Below.refl _ _).alloc (by omega) _).alloc (by simp <;> omega) _).alloc (by simp <;> omega) _).alloc (by simp <;> omega) _).alloc (by simp <;> omega) _
  have hfin : Hid (Below tb w ((((((w.alloc (.cells #[.pointer (some ⟨tb, 0, none⟩)] 62)).alloc (.cells #[.pointer (some ⟨6, 62, none⟩), .pointer (some ⟨w.heap.size, 0, none⟩), .int .u64 150] 77)).alloc (.cells #[.pointer (some ⟨6, 62, none⟩), .pointer (some ⟨w.heap.size, 0, none⟩), .int .u64 150] 77)).alloc (.cells #[v] 67)).alloc (.cells #[.int .i64 k, .int .i64 7] 52)).setRow tb #[.int .i64 k, .int .i64 7]) ∧ ((((((w.alloc (.cells #[.pointer (some ⟨tb, 0, none⟩)] 62)).alloc (.cells #[.pointer (some ⟨6, 62, none⟩), .pointer (some ⟨w.heap.size, 0, none⟩), .int .u64 150] 77)).alloc (.cells #[.pointer (some ⟨6, 62, none⟩), .pointer (some ⟨w.heap.size, 0, none⟩), .int .u64 150] 77)).alloc (.cells #[v] 67)).alloc (.cells #[.int .i64 k, .int .i64 7] 52)).setRow tb #[.int .i64 k, .int .i64 7]).heap[tb]? = some (.cells #[.int .i64 k, .int .i64 7] tt (0, 0))) := Lib.hid ⟨below_setRow hB (Nat.le_refl _) _, setRow_heap _ _ _ _ _ _ ht5⟩
  clear ht5 hB hE
  have hB3 : Below w.heap.size w (((w.alloc (.cells #[.pointer (some ⟨tb, 0, none⟩)] 62)).alloc (.cells #[.pointer (some ⟨6, 62, none⟩), .pointer (some ⟨w.heap.size, 0, none⟩), .int .u64 150] 77)).alloc (.cells #[.pointer (some ⟨6, 62, none⟩), .pointer (some ⟨w.heap.size, 0, none⟩), .int .u64 150] 77)) := (((Below.refl _ _).alloc (Nat.le_refl _) _).alloc (by simp) _).alloc (by simp; omega) _
  go_enter Tryd.func26, Tryd.ntmps26
  go_wp2
  refine wp_loop_rounds 2 ?_
  rw [rounds_succ]
  go_wp2_with (go_at_call 66; refine (hUn _ hB3).mono ?_; rintro e w' ⟨rfl, rfl⟩)
  rw [rounds_succ]
  go_wp2
  go_ret
  exact ⟨rfl, hfin.out⟩
set_option maxRecDepth 100000 in
set_option maxHeartbeats 4000000 in
/-- errors.Is at a misfit, for ErrForm: true. -/
theorem is_M (k : Int) (v : Value) (w : World) (hUn : ∀ W, Below w.heap.size w W → Calls Tryd.prog 66 #[.agg #[v]] W fun e w' => e = .returned (.iface 52 (.agg #[.int .i64 k, .int .i64 7])) ∧ w' = W.alloc (.cells #[v] 67)) :
    Calls Tryd.prog 25 #[.iface 67 (.agg #[v]), .iface 27 (.int .i64 7)] w fun ev w' => ev = .returned (.bool true) ∧ Below w.heap.size w w' := by
  have h44 := @run_callFunc_extern Tryd.prog 31 _ ReflectliteType.typeOf Tryd.func31 (by kernel_rfl) (by kernel_rfl) (by kernel_rfl) (by kernel_rfl)
  have h82 := @run_callFunc_extern Tryd.prog 72 _ (ReflectliteType.method fun t => do Rtype.noPackHeld "Comparable" t; pure (.bool (← typeInfo t).comparable)) Tryd.func72 (by kernel_rfl) (by kernel_rfl) (by kernel_rfl) (by kernel_rfl)
  have tE := Tryd.typeOfE
  have cE := Tryd.comparableE
  have mC := Tryd.methodComparable
  have nM := Tryd.noIsM
  have uM := Tryd.hasUnwrapM
  have mM := Tryd.methodUnwrapM
  have nF := Tryd.noIsF
  have uF := Tryd.hasUnwrapF
  have mF := Tryd.methodUnwrapF
  have q1 := fun W => run_eql_iface_types (P := Tryd.prog) 67 27 (.agg #[v]) (.int .i64 7) Tryd.underlying41 (by decide) W
  have q2 := fun W => run_eql_iface_types (P := Tryd.prog) 52 27 (.agg #[.int .i64 k, .int .i64 7]) (.int .i64 7) Tryd.underlying41 (by decide) W
  have q3 := eql_errno 7 7
  go_enter Tryd.func25, Tryd.ntmps25
  go_wp2
  refine wp_loop_rounds 3 ?_
  rw [rounds_succ]
  go_wp2_with (go_at_call 66; refine (hUn _ (Below.refl _ _)).mono ?_; rintro e w' ⟨rfl, rfl⟩)
  rw [rounds_succ]
  go_wp2_with (go_at_call 64; refine (unwrapF k 7 _).mono ?_; rintro e w' ⟨rfl, rfl⟩)
  rw [rounds_succ]
  go_wp2
  go_ret
  exact ⟨rfl, ((Below.refl _ _).alloc (Nat.le_refl _) _).alloc (by simp) _⟩
end Go.Proofs.YtlfpjfijlngpcaaDoor
