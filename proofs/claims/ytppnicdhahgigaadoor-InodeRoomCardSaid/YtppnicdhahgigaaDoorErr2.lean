/- errors.As at an error that wraps a Fault; errors.Is at an error's number; Unwrap. -/
import Derived.Test.YtppnicdhahgigaaDoorErr1
namespace Go.Proofs.YtppnicdhahgigaaDoor
open Go.RowKit Go.Extern.Stop Go.Stop Go.Extern
theorem unwrapM (k n : Int) (w : World) : Calls Tryd.prog 84 #[.agg #[.int .i64 k, .int .i64 n]] w fun e w' => e = .returned (.iface 51 (.agg #[.int .i64 k, .int .i64 n])) ∧ w' = w.alloc (.cells #[.int .i64 k, .int .i64 n] 81) := by
  go_enter Tryd.func84, Tryd.ntmps84
  go_wp2
  go_ret
  exact ⟨rfl, rfl⟩
theorem unwrapF (k n : Int) (w : World) : Calls Tryd.prog 82 #[.agg #[.int .i64 k, .int .i64 n]] w fun e w' => e = .returned (.iface 29 (.int .i64 n)) ∧ w' = w.alloc (.cells #[.int .i64 k, .int .i64 n] 51) := by
  go_enter Tryd.func82, Tryd.ntmps82
  go_wp2
  go_ret
  exact ⟨rfl, rfl⟩
theorem Tryd.noAsM (v : Value) (xT : TypeId) (w : World) : (Instr.typeAssert (.iface 81 v) xT 112 true).run Tryd.prog w = .ok (.tuple #[.nilIface, .bool false]) w := run_typeAssert_lacksB Tryd.underlying112 (by kernel_rfl) (by kernel_rfl) v xT w
theorem Tryd.hasUnwrapM (v : Value) (xT : TypeId) (w : World) : (Instr.typeAssert (.iface 81 v) xT 115 true).run Tryd.prog w = .ok (.tuple #[.iface 81 v, .bool true]) w := run_typeAssert_hasB Tryd.underlying115 (by kernel_rfl) v xT w
theorem Tryd.methodUnwrapM (v : Value) (w : World) : (Go.method 255 81 v "Unwrap").run Tryd.prog w = .ok (84, v) w := by kernel_rfl
theorem Tryd.noIsM (v : Value) (xT : TypeId) (w : World) : (Instr.typeAssert (.iface 81 v) xT 120 true).run Tryd.prog w = .ok (.tuple #[.nilIface, .bool false]) w := run_typeAssert_lacksB Tryd.underlying120 (by kernel_rfl) (by kernel_rfl) v xT w
theorem Tryd.noIsF (v : Value) (xT : TypeId) (w : World) : (Instr.typeAssert (.iface 51 v) xT 120 true).run Tryd.prog w = .ok (.tuple #[.nilIface, .bool false]) w := run_typeAssert_lacksB Tryd.underlying120 (by kernel_rfl) (by kernel_rfl) v xT w
theorem Tryd.hasUnwrapF (v : Value) (xT : TypeId) (w : World) : (Instr.typeAssert (.iface 51 v) xT 115 true).run Tryd.prog w = .ok (.tuple #[.iface 51 v, .bool true]) w := run_typeAssert_hasB Tryd.underlying115 (by kernel_rfl) v xT w
theorem Tryd.methodUnwrapF (v : Value) (w : World) : (Go.method 255 51 v "Unwrap").run Tryd.prog w = .ok (82, v) w := by kernel_rfl
theorem Tryd.assignableMF (w : World) : (ReflectliteType.relation "AssignableTo" ReflectliteType.assignableTo #[.agg #[.pointer (some ⟨2, 81, none⟩)], .iface 108 (.agg #[.pointer (some ⟨2, 51, none⟩)])]).run Tryd.prog w = .ok (.bool false) w := by kernel_rfl
theorem Tryd.typeOfW (v : Value) (w : World) : (ReflectliteType.typeOf #[.iface 81 v]).run Tryd.prog w = .ok (.iface 108 (.agg #[.pointer (some ⟨2, 81, none⟩)])) w := by kernel_rfl
theorem Tryd.typeOfE (v : Value) (w : World) : (ReflectliteType.typeOf #[.iface 29 v]).run Tryd.prog w = .ok (.iface 108 (.agg #[.pointer (some ⟨2, 29, none⟩)])) w := by kernel_rfl
theorem Tryd.comparableE (w : World) : ((ReflectliteType.method fun t => do Rtype.noPackHeld "Comparable" t; (fun a => Value.bool a.comparable) <$> typeInfo t) #[.agg #[.pointer (some ⟨2, 29, none⟩)]]).run Tryd.prog w = .ok (.bool true) w := by kernel_rfl
theorem Tryd.compE : (Tryd.prog.info? 29).map (·.comparable) = some true := by kernel_rfl
/-- Two numbers of errors, as errors: the same where the numbers are. -/
theorem eql_errno (m n : Int) (w : World) : (binOp .eql 40 (.iface 29 (.int .i64 m)) (.iface 29 (.int .i64 n))).run Tryd.prog w = .ok (.bool (m == n)) w := by
  obtain ⟨i, hi, hc⟩ := Option.map_eq_some_iff.1 Tryd.compE
  have h : ∀ d : Nat, (Op.equalIn (d + 2) 40 (.iface 29 (.int .i64 m)) (.iface 29 (.int .i64 n))).run Tryd.prog w = .ok (m == n) w := fun d => by
    simp [Op.equalIn, run_underlying Tryd.underlying40, run_underlying Tryd.underlying29, typeInfo, hi, hc]
  simp only [binOp]
  simp [Op.equal, Op.maxDepth, h 9998]
set_option maxRecDepth 100000 in
set_option maxHeartbeats 4000000 in
/-- errors.As at such an error, for a Fault: the one that it wraps. -/
theorem as_MF (k n : Int) (o0 o1 : Value) (tt : TypeId) (tb : Nat) (w : World) (hE : ErrAt w) (ht : w.heap[tb]? = some (.cells #[o0, o1] tt (0, 0))) :
    Calls Tryd.prog 39 #[.iface 81 (.agg #[.int .i64 k, .int .i64 n]), .iface 75 (.pointer (some ⟨tb, 0, none⟩))] w fun ev w' => ev = .returned (.bool true) ∧ Below tb w w' ∧ w'.heap[tb]? = some (.cells #[.int .i64 k, .int .i64 n] tt (0, 0)) := by
  have h35 := @run_callFunc_extern Tryd.prog 47 _ (fun args => ReflectliteValue.unpack (args.getD 0 (.tuple #[]))) Tryd.func47 (by kernel_rfl) (by kernel_rfl) (by kernel_rfl) (by kernel_rfl)
  have h36 := @run_callFunc_extern Tryd.prog 48 _ (ReflectliteValue.methodAny (ReflectliteValue.valueError "reflectlite.Value.Type" 0) (fun t _ _ _ => ReflectliteType.toType t)) Tryd.func48 (by kernel_rfl) (by kernel_rfl) (by kernel_rfl) (by kernel_rfl)
  have h37 := @run_callFunc_extern Tryd.prog 49 _ (ReflectliteValue.method (ReflectliteValue.valueError "reflectlite.Value.IsNil" 0) ReflectliteValue.isNil) Tryd.func49 (by kernel_rfl) (by kernel_rfl) (by kernel_rfl) (by kernel_rfl)
  have h69 := @run_callFunc_extern Tryd.prog 77 _ (ReflectliteType.abiMethod fun t => do pure (.int .u8 (← Rtype.kind t))) Tryd.func77 (by kernel_rfl) (by kernel_rfl) (by kernel_rfl) (by kernel_rfl)
  have h83 := @run_callFunc_extern Tryd.prog 91 _ (ReflectliteType.method ReflectliteType.elem) Tryd.func91 (by kernel_rfl) (by kernel_rfl) (by kernel_rfl) (by kernel_rfl)
  have h84 := @run_callFunc_extern Tryd.prog 92 _ (ReflectliteType.relation "Implements" ReflectliteType.implements_) Tryd.func92 (by kernel_rfl) (by kernel_rfl) (by kernel_rfl) (by kernel_rfl)
  have h44 := @run_callFunc_extern Tryd.prog 51 _ ReflectliteType.typeOf Tryd.func51 (by kernel_rfl) (by kernel_rfl) (by kernel_rfl) (by kernel_rfl)
  have h81 := @run_callFunc_extern Tryd.prog 89 _ (ReflectliteType.relation "AssignableTo" ReflectliteType.assignableTo) Tryd.func89 (by kernel_rfl) (by kernel_rfl) (by kernel_rfl) (by kernel_rfl)
  have h49 := @run_callFunc_extern Tryd.prog 58 _ (ReflectliteValue.method (ReflectliteValue.valueError "reflectlite.Value.Elem" 0) ReflectliteValue.elem) Tryd.func58 (by kernel_rfl) (by kernel_rfl) (by kernel_rfl) (by kernel_rfl)
  have h50 := @run_callFunc_extern Tryd.prog 59 _ ReflectliteValue.set Tryd.func59 (by kernel_rfl) (by kernel_rfl) (by kernel_rfl) (by kernel_rfl)
  have h1 : ∀ v ∈ [Value.int .i64 k, Value.int .i64 n], v.oneCell' = true := by intro v hv; simp at hv; rcases hv with rfl | rfl <;> rfl
  have tM := Tryd.typeOfW
  have tO := Tryd.typeOfF
  have mA := Tryd.methodAssignableTo
  have aM := Tryd.assignableMF
  have aN := Tryd.assignableF
  have nA := Tryd.noAsM
  have hU := Tryd.hasUnwrapM
  have mU := Tryd.methodUnwrapM
  have vN := Tryd.valueOfF
  have f6 := Tryd.valueOfPF
  have f7 := Tryd.typePF
  have mK := Tryd.methodKind
  have mE := Tryd.methodElem
  have mI := Tryd.methodImplements
  have kP := Tryd.kindPF
  have kN := Tryd.kindF
  have eP := Tryd.elemPF
  have iN := Tryd.implementsF
  have hlt := hE.lt
  have htl : tb < w.heap.size := by
    rcases Nat.lt_or_ge tb w.heap.size with h | h
    · exact h
    · rw [Array.getElem?_eq_none h] at ht; cases ht
  have n8 := Tryd.isNilPF ⟨w.heap.size, 0, none⟩ ⟨tb, 0, none⟩ ((w.alloc (.cells #[.pointer (some ⟨tb, 0, none⟩)] 75)).alloc (.cells #[.pointer (some ⟨2, 75, none⟩), .pointer (some ⟨w.heap.size, 0, none⟩), .int .u64 150] 88)) (by simp)
  have hg2 : ((w.alloc (.cells #[.pointer (some ⟨tb, 0, none⟩)] 75)).alloc (.cells #[.pointer (some ⟨2, 75, none⟩), .pointer (some ⟨w.heap.size, 0, none⟩), .int .u64 150] 88)).cell? ⟨0, 0, none⟩ = some (.iface 108 (.agg #[.pointer (some ⟨2, 40, none⟩)])) := by
    rw [World.cell?_alloc_lt _ _ ⟨0, 0, none⟩ (by simp <;> omega), World.cell?_alloc_lt _ _ ⟨0, 0, none⟩ hlt]; exact hE
  have el := Tryd.elemVPF ⟨w.heap.size, 0, none⟩ ⟨tb, 0, none⟩ ((((w.alloc (.cells #[.pointer (some ⟨tb, 0, none⟩)] 75)).alloc (.cells #[.pointer (some ⟨2, 75, none⟩), .pointer (some ⟨w.heap.size, 0, none⟩), .int .u64 150] 88)).alloc (.cells #[.pointer (some ⟨2, 75, none⟩), .pointer (some ⟨w.heap.size, 0, none⟩), .int .u64 150] 88)).alloc (.cells #[.int .i64 k, .int .i64 n] 81)) (by rw [World.cell?_alloc_lt _ _ ⟨w.heap.size, 0, none⟩ (by simp <;> omega), World.cell?_alloc_lt _ _ ⟨w.heap.size, 0, none⟩ (by simp <;> omega)]; simp)
  have ht5 : (((((w.alloc (.cells #[.pointer (some ⟨tb, 0, none⟩)] 75)).alloc (.cells #[.pointer (some ⟨2, 75, none⟩), .pointer (some ⟨w.heap.size, 0, none⟩), .int .u64 150] 88)).alloc (.cells #[.pointer (some ⟨2, 75, none⟩), .pointer (some ⟨w.heap.size, 0, none⟩), .int .u64 150] 88)).alloc (.cells #[.int .i64 k, .int .i64 n] 81)).alloc (.cells #[.int .i64 k, .int .i64 n] 51)).heap[tb]? = some (.cells #[o0, o1] tt (0, 0)) := by
    rw [heap_old (by simp <;> omega), heap_old (by simp <;> omega), heap_old (by simp <;> omega), heap_old (by simp <;> omega), heap_old htl]; exact ht
  have st := Tryd.setF tb (w.heap.size + 1 + 1 + 1 + 1) [.int .i64 k, .int .i64 n] [o0, o1] 51 tt (0, 0) (((((w.alloc (.cells #[.pointer (some ⟨tb, 0, none⟩)] 75)).alloc (.cells #[.pointer (some ⟨2, 75, none⟩), .pointer (some ⟨w.heap.size, 0, none⟩), .int .u64 150] 88)).alloc (.cells #[.pointer (some ⟨2, 75, none⟩), .pointer (some ⟨w.heap.size, 0, none⟩), .int .u64 150] 88)).alloc (.cells #[.int .i64 k, .int .i64 n] 81)).alloc (.cells #[.int .i64 k, .int .i64 n] 51)) rfl rfl h1 (by rw [heap_new' (by simp)]) ht5
  have hB : Below tb w (((((w.alloc (.cells #[.pointer (some ⟨tb, 0, none⟩)] 75)).alloc (.cells #[.pointer (some ⟨2, 75, none⟩), .pointer (some ⟨w.heap.size, 0, none⟩), .int .u64 150] 88)).alloc (.cells #[.pointer (some ⟨2, 75, none⟩), .pointer (some ⟨w.heap.size, 0, none⟩), .int .u64 150] 88)).alloc (.cells #[.int .i64 k, .int .i64 n] 81)).alloc (.cells #[.int .i64 k, .int .i64 n] 51)) := (((((Below.refl _ _).alloc (by omega) _).alloc (by simp <;> omega) _).alloc (by simp <;> omega) _).alloc (by simp <;> omega) _).alloc (by simp <;> omega) _
  have hfin : Hid (Below tb w ((((((w.alloc (.cells #[.pointer (some ⟨tb, 0, none⟩)] 75)).alloc (.cells #[.pointer (some ⟨2, 75, none⟩), .pointer (some ⟨w.heap.size, 0, none⟩), .int .u64 150] 88)).alloc (.cells #[.pointer (some ⟨2, 75, none⟩), .pointer (some ⟨w.heap.size, 0, none⟩), .int .u64 150] 88)).alloc (.cells #[.int .i64 k, .int .i64 n] 81)).alloc (.cells #[.int .i64 k, .int .i64 n] 51)).setRow tb #[.int .i64 k, .int .i64 n]) ∧ ((((((w.alloc (.cells #[.pointer (some ⟨tb, 0, none⟩)] 75)).alloc (.cells #[.pointer (some ⟨2, 75, none⟩), .pointer (some ⟨w.heap.size, 0, none⟩), .int .u64 150] 88)).alloc (.cells #[.pointer (some ⟨2, 75, none⟩), .pointer (some ⟨w.heap.size, 0, none⟩), .int .u64 150] 88)).alloc (.cells #[.int .i64 k, .int .i64 n] 81)).alloc (.cells #[.int .i64 k, .int .i64 n] 51)).setRow tb #[.int .i64 k, .int .i64 n]).heap[tb]? = some (.cells #[.int .i64 k, .int .i64 n] tt (0, 0))) := Lib.hid ⟨below_setRow hB (Nat.le_refl _) _, setRow_heap _ _ _ _ _ _ ht5⟩
  clear ht5 hB hE
  go_enter Tryd.func39, Tryd.ntmps39
  go_wp2
  refine wp_loop_rounds 2 ?_
  rw [rounds_succ]
  go_wp2_with (go_at_call 84; refine (unwrapM k n _).mono ?_; rintro e w' ⟨rfl, rfl⟩)
  rw [rounds_succ]
  go_wp2
  go_ret
  exact ⟨rfl, hfin.out⟩
set_option maxRecDepth 100000 in
set_option maxHeartbeats 4000000 in
/-- errors.Is at such an error, for its number: true. -/
theorem is_M (k n : Int) (w : World) :
    Calls Tryd.prog 40 #[.iface 81 (.agg #[.int .i64 k, .int .i64 n]), .iface 29 (.int .i64 n)] w fun ev w' => ev = .returned (.bool true) ∧ Below w.heap.size w w' := by
  have h44 := @run_callFunc_extern Tryd.prog 51 _ ReflectliteType.typeOf Tryd.func51 (by kernel_rfl) (by kernel_rfl) (by kernel_rfl) (by kernel_rfl)
  have h82 := @run_callFunc_extern Tryd.prog 90 _ (ReflectliteType.method fun t => do Rtype.noPackHeld "Comparable" t; pure (.bool (← typeInfo t).comparable)) Tryd.func90 (by kernel_rfl) (by kernel_rfl) (by kernel_rfl) (by kernel_rfl)
  have tE := Tryd.typeOfE
  have cE := Tryd.comparableE
  have mC := Tryd.methodComparable
  have nM := Tryd.noIsM
  have uM := Tryd.hasUnwrapM
  have mM := Tryd.methodUnwrapM
  have nF := Tryd.noIsF
  have uF := Tryd.hasUnwrapF
  have mF := Tryd.methodUnwrapF
  have q1 := fun W => run_eql_iface_types (P := Tryd.prog) 81 29 (.agg #[.int .i64 k, .int .i64 n]) (.int .i64 n) Tryd.underlying40 (by decide) W
  have q2 := fun W => run_eql_iface_types (P := Tryd.prog) 51 29 (.agg #[.int .i64 k, .int .i64 n]) (.int .i64 n) Tryd.underlying40 (by decide) W
  have q3 := eql_errno n n
  go_enter Tryd.func40, Tryd.ntmps40
  go_wp2
  refine wp_loop_rounds 3 ?_
  rw [rounds_succ]
  go_wp2_with (go_at_call 84; refine (unwrapM k n _).mono ?_; rintro e w' ⟨rfl, rfl⟩)
  rw [rounds_succ]
  go_wp2_with (go_at_call 82; refine (unwrapF k n _).mono ?_; rintro e w' ⟨rfl, rfl⟩)
  rw [rounds_succ]
  go_wp2
  go_ret
  exact ⟨rfl, ((Below.refl _ _).alloc (Nat.le_refl _) _).alloc (by simp) _⟩
end Go.Proofs.YtppnicdhahgigaaDoor
