/- errors.As at variables of struct types, errors.Is at numbers of errors: the model's entries at this program's types. -/
import Derived.Test.YtlejmpinfbmccaaGreatDoorProg
import Derived.WalkKit
import Derived.LaidEql
import Derived.Stop.Asserts
import Derived.RowKitTokens
import Derived.Lib.Hide
import Derived.Laws.CopyRow
import Derived.Laws.CopyOwn
import Derived.Laws.Cells
import Derived.Laws.Rows
set_option linter.unusedSimpArgs false
set_option linter.unusedVariables false
namespace Go.Proofs.YtlejmpinfbmccaaGreatDoor
open Go.RowKit Go.Extern.Stop Go.Stop Go.Extern
/-- errors.errorType as it is laid. -/
def ErrAt (w : World) : Prop := w.cell? ⟨3, 0, none⟩ = some (.iface 148 (.agg #[.pointer (some ⟨6, 45, none⟩)]))
theorem ErrAt.lt {w : World} (h : ErrAt w) : 3 < w.heap.size := by
  unfold ErrAt at h
  rcases Nat.lt_or_ge 3 w.heap.size with h2 | h2
  · exact h2
  · exfalso
    have : w.heap[3]? = none := Array.getElem?_eq_none h2
    simp [World.cell?, this] at h
theorem ErrAt.below {w w' : World} (h : ErrAt w) (hb : Below w.heap.size w w') : ErrAt w' := by
  have hl := ErrAt.lt h
  unfold ErrAt at h ⊢
  rw [← h]
  exact hb.cell (p := ⟨3, 0, none⟩) hl
theorem Tryz.methodKind (h : Value) (w : World) : (Go.method 304 148 (.agg #[h]) "Kind").run Tryz.prog w = .ok (129, h) w := by kernel_rfl
theorem Tryz.methodElem (h : Value) (w : World) : (Go.method 304 148 (.agg #[h]) "Elem").run Tryz.prog w = .ok (144, .agg #[h]) w := by kernel_rfl
theorem Tryz.methodImplements (h : Value) (w : World) : (Go.method 304 148 (.agg #[h]) "Implements").run Tryz.prog w = .ok (145, .agg #[h]) w := by kernel_rfl
theorem Tryz.methodAssignableTo (h : Value) (w : World) : (Go.method 304 148 (.agg #[h]) "AssignableTo").run Tryz.prog w = .ok (142, .agg #[h]) w := by kernel_rfl
theorem Tryz.methodComparable (v : Value) (w : World) : (Go.method 304 148 v "Comparable").run Tryz.prog w = .ok (143, v) w := by kernel_rfl
theorem Tryz.typeOfM (v : Value) (w : World) : (ReflectliteType.typeOf #[.iface 78 v]).run Tryz.prog w = .ok (.iface 148 (.agg #[.pointer (some ⟨6, 78, none⟩)])) w := by kernel_rfl

/-! ### F: api.Fault -/
theorem Tryz.valueOfPF (t : Addr) (w : World) : (ReflectliteValue.unpack (.iface 81 (.pointer (some t)))).run Tryz.prog w
    = .ok (.agg #[.pointer (some ⟨6, 81, none⟩), .pointer (some ⟨w.heap.size, 0, none⟩), .int .u64 150]) (w.alloc (.cells #[.pointer (some t)] 81)) := by kernel_rfl
theorem Tryz.typePF (a : Addr) (w : World) : (ReflectliteValue.methodAny (ReflectliteValue.valueError "reflectlite.Value.Type" 0) (fun t _ _ _ => ReflectliteType.toType t) #[.agg #[.pointer (some ⟨6, 81, none⟩), .pointer (some a), .int .u64 150]]).run Tryz.prog w
    = .ok (.iface 148 (.agg #[.pointer (some ⟨6, 81, none⟩)])) w := by kernel_rfl
theorem Tryz.kindPF (w : World) : ((ReflectliteType.abiMethod fun t => (fun a : Nat => Value.int IntKind.u8 (a : Int)) <$> Rtype.kind t) #[.pointer (some ⟨6, 81, none⟩)]).run Tryz.prog w = .ok (.int .u8 22) w := by kernel_rfl
theorem Tryz.kindF (w : World) : ((ReflectliteType.abiMethod fun t => (fun a : Nat => Value.int IntKind.u8 (a : Int)) <$> Rtype.kind t) #[.pointer (some ⟨6, 60, none⟩)]).run Tryz.prog w = .ok (.int .u8 25) w := by kernel_rfl
theorem Tryz.partsPF (a : Addr) (w : World) : (ReflectliteValue.parts (.agg #[.pointer (some ⟨6, 81, none⟩), .pointer (some a), .int .u64 150])).run Tryz.prog w = .ok (some (81, a, 150)) w := by kernel_rfl
theorem Tryz.isNilPF (a p : Addr) (W : World) (ha : W.cell? a = some (.pointer (some p))) :
    (ReflectliteValue.method (ReflectliteValue.valueError "reflectlite.Value.IsNil" 0) ReflectliteValue.isNil #[.agg #[.pointer (some ⟨6, 81, none⟩), .pointer (some a), .int .u64 150]]).run Tryz.prog W = .ok (.bool false) W := by
  show Sem.run _ (bind (ReflectliteValue.parts (.agg #[.pointer (some ⟨6, 81, none⟩), .pointer (some a), .int .u64 150])) _) _ = _
  simp only [Sem.run_bind, Tryz.partsPF, Result.andThen]
  simp [ReflectliteValue.isNil, loadVar, isAgg, underlying, Tryz.underlying81, ha, Result.andThen]
theorem Tryz.elemPF (w : World) : (ReflectliteType.method ReflectliteType.elem #[.agg #[.pointer (some ⟨6, 81, none⟩)]]).run Tryz.prog w = .ok (.iface 148 (.agg #[.pointer (some ⟨6, 60, none⟩)])) w := by kernel_rfl
theorem Tryz.implementsF (w : World) : (ReflectliteType.relation "Implements" ReflectliteType.implements_ #[.agg #[.pointer (some ⟨6, 60, none⟩)], .iface 148 (.agg #[.pointer (some ⟨6, 45, none⟩)])]).run Tryz.prog w = .ok (.bool true) w := by kernel_rfl
theorem Tryz.typeOfF (v : Value) (w : World) : (ReflectliteType.typeOf #[.iface 60 v]).run Tryz.prog w = .ok (.iface 148 (.agg #[.pointer (some ⟨6, 60, none⟩)])) w := by kernel_rfl
theorem Tryz.assignableF (w : World) : (ReflectliteType.relation "AssignableTo" ReflectliteType.assignableTo #[.agg #[.pointer (some ⟨6, 60, none⟩)], .iface 148 (.agg #[.pointer (some ⟨6, 60, none⟩)])]).run Tryz.prog w = .ok (.bool true) w := by kernel_rfl
theorem Tryz.valueOfF (v0 v1 : Value) (w : World) : (ReflectliteValue.unpack (.iface 60 (.agg #[v0, v1]))).run Tryz.prog w
    = .ok (.agg #[.pointer (some ⟨6, 60, none⟩), .pointer (some ⟨w.heap.size, 0, none⟩), .int .u64 153]) (w.alloc (.cells #[v0, v1] 60)) := by kernel_rfl
theorem Tryz.elemOfPF (w : World) : (Rtype.elem? 81).run Tryz.prog w = .ok (some 60) w := by kernel_rfl
theorem Tryz.mkF (p : Addr) (w : World) : (ReflectliteValue.mk 60 p ReflectliteValue.flagAddr).run Tryz.prog w = .ok (.agg #[.pointer (some ⟨6, 60, none⟩), .pointer (some p), .int .u64 409]) w := by kernel_rfl
theorem Tryz.elemVPF (a p : Addr) (W : World) (ha : W.cell? a = some (.pointer (some p))) :
    (ReflectliteValue.method (ReflectliteValue.valueError "reflectlite.Value.Elem" 0) ReflectliteValue.elem #[.agg #[.pointer (some ⟨6, 81, none⟩), .pointer (some a), .int .u64 150]]).run Tryz.prog W
      = .ok (.agg #[.pointer (some ⟨6, 60, none⟩), .pointer (some p), .int .u64 409]) W := by
  show Sem.run _ (bind (ReflectliteValue.parts (.agg #[.pointer (some ⟨6, 81, none⟩), .pointer (some a), .int .u64 150])) _) _ = _
  simp only [Sem.run_bind, Tryz.partsPF, Result.andThen]
  simp [ReflectliteValue.elem, loadVar, isAgg, underlying, Tryz.underlying81, ha, Result.andThen, Tryz.elemOfPF, Tryz.mkF]
theorem Tryz.partsFa (a : Addr) (w : World) : (ReflectliteValue.parts (.agg #[.pointer (some ⟨6, 60, none⟩), .pointer (some a), .int .u64 409])).run Tryz.prog w = .ok (some (60, a, 409)) w := by kernel_rfl
theorem Tryz.partsF (a : Addr) (w : World) : (ReflectliteValue.parts (.agg #[.pointer (some ⟨6, 60, none⟩), .pointer (some a), .int .u64 153])).run Tryz.prog w = .ok (some (60, a, 153)) w := by kernel_rfl
theorem Tryz.directF (w : World) : (Rtype.directlyAssignable 60 60).run Tryz.prog w = .ok true w := by kernel_rfl
theorem Tryz.aggF (w : World) : (isAgg 60).run Tryz.prog w = .ok true w := by kernel_rfl
theorem Tryz.sizeF (w : World) : (sizeOf 60).run Tryz.prog w = .ok 2 w := by kernel_rfl
end Go.Proofs.YtlejmpinfbmccaaGreatDoor
/- errors.As at a variable of a struct type: an error of that very type is found, and stored. -/
namespace Go.Proofs.YtlejmpinfbmccaaGreatDoor
open Go.RowKit Go.Extern.Stop Go.Stop Go.Extern
theorem heap_old {w : World} {o : Obj} {g : Nat} (h : g < w.heap.size) : (w.alloc o).heap[g]? = w.heap[g]? := by
  unfold World.alloc
  rw [Array.getElem?_push, if_neg (by omega)]
theorem heap_new' {w : World} {o : Obj} {g : Nat} (h : g = w.heap.size) : (w.alloc o).heap[g]? = some o := by
  subst h; exact heap_alloc_new w o
theorem cells_of_heap {w : World} {b : Nat} {cs : List Value} {tt : TypeId} {fz : Nat × Nat} (h : w.heap[b]? = some (.cells cs.toArray tt fz)) : ∀ j v, cs[j]? = some v → w.cell? ((⟨b, 0, none⟩ : Addr).add j) = some v := by
  intro j v hv
  have e : (⟨b, 0, none⟩ : Addr).add j = ⟨b, j, none⟩ := by
    simp only [Addr.add]
    split
    · rename_i h0; subst h0; rfl
    · simp
  rw [e, cell_of_row w b j _ tt fz h]
  simpa using hv
/-- errors.As(nil, target). -/
theorem as_nil (t : Value) (w : World) :
    Calls Tryz.prog 50 #[.nilIface, t] w fun e w' => e = .returned (.bool false) ∧ w' = w := by
  go_enter Tryz.func50, Tryz.ntmps50
  go_wp2
  go_ret
  exact ⟨rfl, rfl⟩

theorem Tryz.loadF (b : Nat) (cs : List Value) (tt : TypeId) (fz : Nat × Nat) (W : World) (hn : cs.length = 2) (hb : W.heap[b]? = some (.cells cs.toArray tt fz)) : (loadVar 60 ⟨b, 0, none⟩).run Tryz.prog W = .ok (.agg cs.toArray) W := by
  have h := run_loadCells_list (P := Tryz.prog) W ⟨b, 0, none⟩ cs (cells_of_heap hb)
  rw [hn] at h
  unfold loadVar
  simp [Sem.run_bind, Result.andThen, h]
theorem Tryz.setF (tb b : Nat) (cs old : List Value) (tt tt' : TypeId) (fz : Nat × Nat) (W : World) (hn : cs.length = 2) (ho : old.length = 2) (h1 : ∀ v ∈ cs, v.oneCell' = true)
    (hb : W.heap[b]? = some (.cells cs.toArray tt fz)) (ht : W.heap[tb]? = some (.cells old.toArray tt' (0, 0))) :
    (ReflectliteValue.set #[.agg #[.pointer (some ⟨6, 60, none⟩), .pointer (some ⟨tb, 0, none⟩), .int .u64 409], .agg #[.pointer (some ⟨6, 60, none⟩), .pointer (some ⟨b, 0, none⟩), .int .u64 153]]).run Tryz.prog W
      = .ok (.tuple #[]) (W.setRow tb cs.toArray) := by
  have hl := Tryz.loadF b cs tt fz W hn hb
  have hs := run_storeCells_at (P := Tryz.prog) tb 0 tt' cs 0 old.toArray W ht (by simp <;> omega) h1
  rw [show (old.toArray.toList.take (0 + 0) ++ cs ++ old.toArray.toList.drop (0 + 0 + cs.length)) = cs by simp; omega] at hs
  show Sem.run _ (bind (ReflectliteValue.parts (.agg #[.pointer (some ⟨6, 60, none⟩), .pointer (some ⟨tb, 0, none⟩), .int .u64 409])) fun _ => bind (ReflectliteValue.parts (.agg #[.pointer (some ⟨6, 60, none⟩), .pointer (some ⟨b, 0, none⟩), .int .u64 153])) _) _ = _
  simp only [Sem.run_bind, Tryz.partsFa, Tryz.partsF, Result.andThen]
  simp [ReflectliteValue.flagAddr, hl, Result.andThen, Tryz.directF, storeVar, Value.cells, hn, hs]

set_option maxRecDepth 100000 in
set_option maxHeartbeats 4000000 in
/-- errors.As at an error that is a api.Fault itself. -/
theorem as_F (v0 v1 o0 o1 : Value) (tt : TypeId) (tb : Nat) (w : World) (hE : ErrAt w) (ht : w.heap[tb]? = some (.cells #[o0, o1] tt (0, 0))) (h1 : ∀ v ∈ [v0, v1], v.oneCell' = true) :
    Calls Tryz.prog 50 #[.iface 60 (.agg #[v0, v1]), .iface 81 (.pointer (some ⟨tb, 0, none⟩))] w fun ev w' => ev = .returned (.bool true) ∧ Below tb w w' ∧ w'.heap[tb]? = some (.cells #[v0, v1] tt (0, 0)) := by
  have h35 := @run_callFunc_extern Tryz.prog 78 _ (fun args => ReflectliteValue.unpack (args.getD 0 (.tuple #[]))) Tryz.func78 (by kernel_rfl) (by kernel_rfl) (by kernel_rfl) (by kernel_rfl)
  have h36 := @run_callFunc_extern Tryz.prog 79 _ (ReflectliteValue.methodAny (ReflectliteValue.valueError "reflectlite.Value.Type" 0) (fun t _ _ _ => ReflectliteType.toType t)) Tryz.func79 (by kernel_rfl) (by kernel_rfl) (by kernel_rfl) (by kernel_rfl)
  have h37 := @run_callFunc_extern Tryz.prog 80 _ (ReflectliteValue.method (ReflectliteValue.valueError "reflectlite.Value.IsNil" 0) ReflectliteValue.isNil) Tryz.func80 (by kernel_rfl) (by kernel_rfl) (by kernel_rfl) (by kernel_rfl)
  have h69 := @run_callFunc_extern Tryz.prog 129 _ (ReflectliteType.abiMethod fun t => do pure (.int .u8 (← Rtype.kind t))) Tryz.func129 (by kernel_rfl) (by kernel_rfl) (by kernel_rfl) (by kernel_rfl)
  have h83 := @run_callFunc_extern Tryz.prog 144 _ (ReflectliteType.method ReflectliteType.elem) Tryz.func144 (by kernel_rfl) (by kernel_rfl) (by kernel_rfl) (by kernel_rfl)
  have h84 := @run_callFunc_extern Tryz.prog 145 _ (ReflectliteType.relation "Implements" ReflectliteType.implements_) Tryz.func145 (by kernel_rfl) (by kernel_rfl) (by kernel_rfl) (by kernel_rfl)
  have h44 := @run_callFunc_extern Tryz.prog 82 _ ReflectliteType.typeOf Tryz.func82 (by kernel_rfl) (by kernel_rfl) (by kernel_rfl) (by kernel_rfl)
  have h81 := @run_callFunc_extern Tryz.prog 142 _ (ReflectliteType.relation "AssignableTo" ReflectliteType.assignableTo) Tryz.func142 (by kernel_rfl) (by kernel_rfl) (by kernel_rfl) (by kernel_rfl)
  have h49 := @run_callFunc_extern Tryz.prog 104 _ (ReflectliteValue.method (ReflectliteValue.valueError "reflectlite.Value.Elem" 0) ReflectliteValue.elem) Tryz.func104 (by kernel_rfl) (by kernel_rfl) (by kernel_rfl) (by kernel_rfl)
  have h50 := @run_callFunc_extern Tryz.prog 105 _ ReflectliteValue.set Tryz.func105 (by kernel_rfl) (by kernel_rfl) (by kernel_rfl) (by kernel_rfl)
  have tO := Tryz.typeOfF
  have mA := Tryz.methodAssignableTo
  have aN := Tryz.assignableF
  have vN := Tryz.valueOfF
  have f6 := Tryz.valueOfPF
  have f7 := Tryz.typePF
  have mK := Tryz.methodKind
  have mE := Tryz.methodElem
  have mI := Tryz.methodImplements
  have kP := Tryz.kindPF
  have kN := Tryz.kindF
  have eP := Tryz.elemPF
  have iN := Tryz.implementsF
  have hlt := hE.lt
  have htl : tb < w.heap.size := by
    rcases Nat.lt_or_ge tb w.heap.size with h | h
    · exact h
    · rw [Array.getElem?_eq_none h] at ht; cases ht
  have n8 := Tryz.isNilPF ⟨w.heap.size, 0, none⟩ ⟨tb, 0, none⟩ ((w.alloc (.cells #[.pointer (some ⟨tb, 0, none⟩)] 81)).alloc (.cells #[.pointer (some ⟨6, 81, none⟩), .pointer (some ⟨w.heap.size, 0, none⟩), .int .u64 150] 115)) (by simp)
  have hg2 : ((w.alloc (.cells #[.pointer (some ⟨tb, 0, none⟩)] 81)).alloc (.cells #[.pointer (some ⟨6, 81, none⟩), .pointer (some ⟨w.heap.size, 0, none⟩), .int .u64 150] 115)).cell? ⟨3, 0, none⟩ = some (.iface 148 (.agg #[.pointer (some ⟨6, 45, none⟩)])) := by
    rw [World.cell?_alloc_lt _ _ ⟨3, 0, none⟩ (by simp <;> omega), World.cell?_alloc_lt _ _ ⟨3, 0, none⟩ hlt]; exact hE
  have el := Tryz.elemVPF ⟨w.heap.size, 0, none⟩ ⟨tb, 0, none⟩ (((w.alloc (.cells #[.pointer (some ⟨tb, 0, none⟩)] 81)).alloc (.cells #[.pointer (some ⟨6, 81, none⟩), .pointer (some ⟨w.heap.size, 0, none⟩), .int .u64 150] 115)).alloc (.cells #[.pointer (some ⟨6, 81, none⟩), .pointer (some ⟨w.heap.size, 0, none⟩), .int .u64 150] 115)) (by rw [World.cell?_alloc_lt _ _ ⟨w.heap.size, 0, none⟩ (by simp <;> omega)]; simp)
  have ht4 : ((((w.alloc (.cells #[.pointer (some ⟨tb, 0, none⟩)] 81)).alloc (.cells #[.pointer (some ⟨6, 81, none⟩), .pointer (some ⟨w.heap.size, 0, none⟩), .int .u64 150] 115)).alloc (.cells #[.pointer (some ⟨6, 81, none⟩), .pointer (some ⟨w.heap.size, 0, none⟩), .int .u64 150] 115)).alloc (.cells #[v0, v1] 60)).heap[tb]? = some (.cells #[o0, o1] tt (0, 0)) := by
    rw [heap_old (by simp <;> omega), heap_old (by simp <;> omega), heap_old (by simp <;> omega), heap_old htl]; exact ht
  have st := Tryz.setF tb (w.heap.size + 1 + 1 + 1) [v0, v1] [o0, o1] 60 tt (0, 0) ((((w.alloc (.cells #[.pointer (some ⟨tb, 0, none⟩)] 81)).alloc (.cells #[.pointer (some ⟨6, 81, none⟩), .pointer (some ⟨w.heap.size, 0, none⟩), .int .u64 150] 115)).alloc (.cells #[.pointer (some ⟨6, 81, none⟩), .pointer (some ⟨w.heap.size, 0, none⟩), .int .u64 150] 115)).alloc (.cells #[v0, v1] 60)) rfl rfl h1 (by rw [heap_new' (by simp)]) ht4
  have hB : Below tb w ((((w.alloc (.cells #[.pointer (some ⟨tb, 0, none⟩)] 81)).alloc (.cells #[.pointer (some ⟨6, 81, none⟩), .pointer (some ⟨w.heap.size, 0, none⟩), .int .u64 150] 115)).alloc (.cells #[.pointer (some ⟨6, 81, none⟩), .pointer (some ⟨w.heap.size, 0, none⟩), .int .u64 150] 115)).alloc (.cells #[v0, v1] 60)) := ((((Below.refl _ _).alloc (by omega) _).alloc (by simp <;> omega) _).alloc (by simp <;> omega) _).alloc (by simp <;> omega) _
  have hfin : Hid (Below tb w (((((w.alloc (.cells #[.pointer (some ⟨tb, 0, none⟩)] 81)).alloc (.cells #[.pointer (some ⟨6, 81, none⟩), .pointer (some ⟨w.heap.size, 0, none⟩), .int .u64 150] 115)).alloc (.cells #[.pointer (some ⟨6, 81, none⟩), .pointer (some ⟨w.heap.size, 0, none⟩), .int .u64 150] 115)).alloc (.cells #[v0, v1] 60)).setRow tb #[v0, v1]) ∧ (((((w.alloc (.cells #[.pointer (some ⟨tb, 0, none⟩)] 81)).alloc (.cells #[.pointer (some ⟨6, 81, none⟩), .pointer (some ⟨w.heap.size, 0, none⟩), .int .u64 150] 115)).alloc (.cells #[.pointer (some ⟨6, 81, none⟩), .pointer (some ⟨w.heap.size, 0, none⟩), .int .u64 150] 115)).alloc (.cells #[v0, v1] 60)).setRow tb #[v0, v1]).heap[tb]? = some (.cells #[v0, v1] tt (0, 0))) := Lib.hid ⟨below_setRow hB (Nat.le_refl _) _, setRow_heap _ _ _ _ _ _ ht4⟩
  clear ht4 hB hE
  go_enter Tryz.func50, Tryz.ntmps50
  go_wp2
  refine wp_loop_rounds 1 ?_
  rw [rounds_succ]
  go_wp2
  go_ret
  exact ⟨rfl, hfin.out⟩
end Go.Proofs.YtlejmpinfbmccaaGreatDoor
/- errors.As at an error that wraps a Fault; errors.Is at an error's number; Unwrap. -/
namespace Go.Proofs.YtlejmpinfbmccaaGreatDoor
open Go.RowKit Go.Extern.Stop Go.Stop Go.Extern
theorem unwrapF (k n : Int) (w : World) : Calls Tryz.prog 134 #[.agg #[.int .i64 k, .int .i64 n]] w fun e w' => e = .returned (.iface 31 (.int .i64 n)) ∧ w' = w.alloc (.cells #[.int .i64 k, .int .i64 n] 60) := by
  go_enter Tryz.func134, Tryz.ntmps134
  go_wp2
  go_ret
  exact ⟨rfl, rfl⟩
theorem Tryz.noAsM (v : Value) (xT : TypeId) (w : World) : (Instr.typeAssert (.iface 78 v) xT 152 true).run Tryz.prog w = .ok (.tuple #[.nilIface, .bool false]) w := run_typeAssert_lacksB Tryz.underlying152 (by kernel_rfl) (by kernel_rfl) v xT w
theorem Tryz.hasUnwrapM (v : Value) (xT : TypeId) (w : World) : (Instr.typeAssert (.iface 78 v) xT 155 true).run Tryz.prog w = .ok (.tuple #[.iface 78 v, .bool true]) w := run_typeAssert_hasB Tryz.underlying155 (by kernel_rfl) v xT w
theorem Tryz.methodUnwrapM (v : Value) (w : World) : (Go.method 304 78 v "Unwrap").run Tryz.prog w = .ok (136, v) w := by kernel_rfl
theorem Tryz.noIsM (v : Value) (xT : TypeId) (w : World) : (Instr.typeAssert (.iface 78 v) xT 160 true).run Tryz.prog w = .ok (.tuple #[.nilIface, .bool false]) w := run_typeAssert_lacksB Tryz.underlying160 (by kernel_rfl) (by kernel_rfl) v xT w
theorem Tryz.noIsF (v : Value) (xT : TypeId) (w : World) : (Instr.typeAssert (.iface 60 v) xT 160 true).run Tryz.prog w = .ok (.tuple #[.nilIface, .bool false]) w := run_typeAssert_lacksB Tryz.underlying160 (by kernel_rfl) (by kernel_rfl) v xT w
theorem Tryz.hasUnwrapF (v : Value) (xT : TypeId) (w : World) : (Instr.typeAssert (.iface 60 v) xT 155 true).run Tryz.prog w = .ok (.tuple #[.iface 60 v, .bool true]) w := run_typeAssert_hasB Tryz.underlying155 (by kernel_rfl) v xT w
theorem Tryz.methodUnwrapF (v : Value) (w : World) : (Go.method 304 60 v "Unwrap").run Tryz.prog w = .ok (134, v) w := by kernel_rfl
theorem Tryz.assignableMF (w : World) : (ReflectliteType.relation "AssignableTo" ReflectliteType.assignableTo #[.agg #[.pointer (some ⟨6, 78, none⟩)], .iface 148 (.agg #[.pointer (some ⟨6, 60, none⟩)])]).run Tryz.prog w = .ok (.bool false) w := by kernel_rfl
theorem Tryz.typeOfE (v : Value) (w : World) : (ReflectliteType.typeOf #[.iface 31 v]).run Tryz.prog w = .ok (.iface 148 (.agg #[.pointer (some ⟨6, 31, none⟩)])) w := by kernel_rfl
theorem Tryz.comparableE (w : World) : ((ReflectliteType.method fun t => do Rtype.noPackHeld "Comparable" t; (fun a => Value.bool a.comparable) <$> typeInfo t) #[.agg #[.pointer (some ⟨6, 31, none⟩)]]).run Tryz.prog w = .ok (.bool true) w := by kernel_rfl
theorem Tryz.compE : (Tryz.prog.info? 31).map (·.comparable) = some true := by kernel_rfl
/-- Two numbers of errors, as errors: the same where the numbers are. -/
theorem eql_errno (m n : Int) (w : World) : (binOp .eql 45 (.iface 31 (.int .i64 m)) (.iface 31 (.int .i64 n))).run Tryz.prog w = .ok (.bool (m == n)) w := by
  obtain ⟨i, hi, hc⟩ := Option.map_eq_some_iff.1 Tryz.compE
  have h : ∀ d : Nat, (Op.equalIn (d + 2) 45 (.iface 31 (.int .i64 m)) (.iface 31 (.int .i64 n))).run Tryz.prog w = .ok (m == n) w := fun d => by
    simp [Op.equalIn, run_underlying Tryz.underlying45, run_underlying Tryz.underlying31, typeInfo, hi, hc]
  simp only [binOp]
  simp [Op.equal, Op.maxDepth, h 9998]
set_option maxRecDepth 100000 in
set_option maxHeartbeats 4000000 in
/-- errors.As at a misfit, for a Fault: the one that it wraps. -/
theorem as_MF (k : Int) (v : Value) (o0 o1 : Value) (tt : TypeId) (tb : Nat) (w : World) (hUn : ∀ W, Below w.heap.size w W → Calls Tryz.prog 136 #[.agg #[v]] W fun e w' => e = .returned (.iface 60 (.agg #[.int .i64 k, .int .i64 7])) ∧ w' = W.alloc (.cells #[v] 78)) (hE : ErrAt w) (ht : w.heap[tb]? = some (.cells #[o0, o1] tt (0, 0))) :
    Calls Tryz.prog 50 #[.iface 78 (.agg #[v]), .iface 81 (.pointer (some ⟨tb, 0, none⟩))] w fun ev w' => ev = .returned (.bool true) ∧ Below tb w w' ∧ w'.heap[tb]? = some (.cells #[.int .i64 k, .int .i64 7] tt (0, 0)) := by
  have h35 := @run_callFunc_extern Tryz.prog 78 _ (fun args => ReflectliteValue.unpack (args.getD 0 (.tuple #[]))) Tryz.func78 (by kernel_rfl) (by kernel_rfl) (by kernel_rfl) (by kernel_rfl)
  have h36 := @run_callFunc_extern Tryz.prog 79 _ (ReflectliteValue.methodAny (ReflectliteValue.valueError "reflectlite.Value.Type" 0) (fun t _ _ _ => ReflectliteType.toType t)) Tryz.func79 (by kernel_rfl) (by kernel_rfl) (by kernel_rfl) (by kernel_rfl)
  have h37 := @run_callFunc_extern Tryz.prog 80 _ (ReflectliteValue.method (ReflectliteValue.valueError "reflectlite.Value.IsNil" 0) ReflectliteValue.isNil) Tryz.func80 (by kernel_rfl) (by kernel_rfl) (by kernel_rfl) (by kernel_rfl)
  have h69 := @run_callFunc_extern Tryz.prog 129 _ (ReflectliteType.abiMethod fun t => do pure (.int .u8 (← Rtype.kind t))) Tryz.func129 (by kernel_rfl) (by kernel_rfl) (by kernel_rfl) (by kernel_rfl)
  have h83 := @run_callFunc_extern Tryz.prog 144 _ (ReflectliteType.method ReflectliteType.elem) Tryz.func144 (by kernel_rfl) (by kernel_rfl) (by kernel_rfl) (by kernel_rfl)
  have h84 := @run_callFunc_extern Tryz.prog 145 _ (ReflectliteType.relation "Implements" ReflectliteType.implements_) Tryz.func145 (by kernel_rfl) (by kernel_rfl) (by kernel_rfl) (by kernel_rfl)
  have h44 := @run_callFunc_extern Tryz.prog 82 _ ReflectliteType.typeOf Tryz.func82 (by kernel_rfl) (by kernel_rfl) (by kernel_rfl) (by kernel_rfl)
  have h81 := @run_callFunc_extern Tryz.prog 142 _ (ReflectliteType.relation "AssignableTo" ReflectliteType.assignableTo) Tryz.func142 (by kernel_rfl) (by kernel_rfl) (by kernel_rfl) (by kernel_rfl)
  have h49 := @run_callFunc_extern Tryz.prog 104 _ (ReflectliteValue.method (ReflectliteValue.valueError "reflectlite.Value.Elem" 0) ReflectliteValue.elem) Tryz.func104 (by kernel_rfl) (by kernel_rfl) (by kernel_rfl) (by kernel_rfl)
  have h50 := @run_callFunc_extern Tryz.prog 105 _ ReflectliteValue.set Tryz.func105 (by kernel_rfl) (by kernel_rfl) (by kernel_rfl) (by kernel_rfl)
  have h1 : ∀ v ∈ [Value.int .i64 k, Value.int .i64 7], v.oneCell' = true := by intro v hv; simp at hv; rcases hv with rfl | rfl <;> rfl
  have tM := Tryz.typeOfM
  have tO := Tryz.typeOfF
  have mA := Tryz.methodAssignableTo
  have aM := Tryz.assignableMF
  have aN := Tryz.assignableF
  have nA := Tryz.noAsM
  have hU := Tryz.hasUnwrapM
  have mU := Tryz.methodUnwrapM
  have vN := Tryz.valueOfF
  have f6 := Tryz.valueOfPF
  have f7 := Tryz.typePF
  have mK := Tryz.methodKind
  have mE := Tryz.methodElem
  have mI := Tryz.methodImplements
  have kP := Tryz.kindPF
  have kN := Tryz.kindF
  have eP := Tryz.elemPF
  have iN := Tryz.implementsF
  have hlt := hE.lt
  have htl : tb < w.heap.size := by
    rcases Nat.lt_or_ge tb w.heap.size with h | h
    · exact h
    · rw [Array.getElem?_eq_none h] at ht; cases ht
  have n8 := Tryz.isNilPF ⟨w.heap.size, 0, none⟩ ⟨tb, 0, none⟩ ((w.alloc (.cells #[.pointer (some ⟨tb, 0, none⟩)] 81)).alloc (.cells #[.pointer (some ⟨6, 81, none⟩), .pointer (some ⟨w.heap.size, 0, none⟩), .int .u64 150] 115)) (by simp)
  have hg2 : ((w.alloc (.cells #[.pointer (some ⟨tb, 0, none⟩)] 81)).alloc (.cells #[.pointer (some ⟨6, 81, none⟩), .pointer (some ⟨w.heap.size, 0, none⟩), .int .u64 150] 115)).cell? ⟨3, 0, none⟩ = some (.iface 148 (.agg #[.pointer (some ⟨6, 45, none⟩)])) := by
    rw [World.cell?_alloc_lt _ _ ⟨3, 0, none⟩ (by simp <;> omega), World.cell?_alloc_lt _ _ ⟨3, 0, none⟩ hlt]; exact hE
  have el := Tryz.elemVPF ⟨w.heap.size, 0, none⟩ ⟨tb, 0, none⟩ ((((w.alloc (.cells #[.pointer (some ⟨tb, 0, none⟩)] 81)).alloc (.cells #[.pointer (some ⟨6, 81, none⟩), .pointer (some ⟨w.heap.size, 0, none⟩), .int .u64 150] 115)).alloc (.cells #[.pointer (some ⟨6, 81, none⟩), .pointer (some ⟨w.heap.size, 0, none⟩), .int .u64 150] 115)).alloc (.cells #[v] 78)) (by rw [World.cell?_alloc_lt _ _ ⟨w.heap.size, 0, none⟩ (by simp <;> omega), World.cell?_alloc_lt _ _ ⟨w.heap.size, 0, none⟩ (by simp <;> omega)]; simp)
  have ht5 : (((((w.alloc (.cells #[.pointer (some ⟨tb, 0, none⟩)] 81)).alloc (.cells #[.pointer (some ⟨6, 81, none⟩), .pointer (some ⟨w.heap.size, 0, none⟩), .int .u64 150] 115)).alloc (.cells #[.pointer (some ⟨6, 81, none⟩), .pointer (some ⟨w.heap.size, 0, none⟩), .int .u64 150] 115)).alloc (.cells #[v] 78)).alloc (.cells #[.int .i64 k, .int .i64 7] 60)).heap[tb]? = some (.cells #[o0, o1] tt (0, 0)) := by
    rw [heap_old (by simp <;> omega), heap_old (by simp <;> omega), heap_old (by simp <;> omega), heap_old (by simp <;> omega), heap_old htl]; exact ht
  have st := Tryz.setF tb (w.heap.size + 1 + 1 + 1 + 1) [.int .i64 k, .int .i64 7] [o0, o1] 60 tt (0, 0) (((((w.alloc (.cells #[.pointer (some ⟨tb, 0, none⟩)] 81)).alloc (.cells #[.pointer (some ⟨6, 81, none⟩), .pointer (some ⟨w.heap.size, 0, none⟩), .int .u64 150] 115)).alloc (.cells #[.pointer (some ⟨6, 81, none⟩), .pointer (some ⟨w.heap.size, 0, none⟩), .int .u64 150] 115)).alloc (.cells #[v] 78)).alloc (.cells #[.int .i64 k, .int .i64 7] 60)) rfl rfl h1 (by rw [heap_new' (by simp)]) ht5
  have hB : Below tb w (((((w.alloc (.cells #[.pointer (some ⟨tb, 0, none⟩)] 81)).alloc (.cells #[.pointer (some ⟨6, 81, none⟩), .pointer (some ⟨w.heap.size, 0, none⟩), .int .u64 150] 115)).alloc (.cells #[.pointer (some ⟨6, 81, none⟩), .pointer (some ⟨w.heap.size, 0, none⟩), .int .u64 150] 115)).alloc (.cells #[v] 78)).alloc (.cells #[.int .i64 k, .int .i64 7] 60)) := (((((Below.refl _ _).alloc (by omega) _).alloc (by simp <;> omega) _).alloc (by simp <;> omega) _).alloc (by simp <;> omega) _).alloc (by simp <;> omega) _
  have hfin : Hid (Below tb w ((((((w.alloc (.cells #[.pointer (some ⟨tb, 0, none⟩)] 81)).alloc (.cells #[.pointer (some ⟨6, 81, none⟩), .pointer (some ⟨w.heap.size, 0, none⟩), .int .u64 150] 115)).alloc (.cells #[.pointer (some ⟨6, 81, none⟩), .pointer (some ⟨w.heap.size, 0, none⟩), .int .u64 150] 115)).alloc (.cells #[v] 78)).alloc (.cells #[.int .i64 k, .int .i64 7] 60)).setRow tb #[.int .i64 k, .int .i64 7]) ∧ ((((((w.alloc (.cells #[.pointer (some ⟨tb, 0, none⟩)] 81)).alloc (.cells #[.pointer (some ⟨6, 81, none⟩), .pointer (some ⟨w.heap.size, 0, none⟩), .int .u64 150] 115)).alloc (.cells #[.pointer (some ⟨6, 81, none⟩), .pointer (some ⟨w.heap.size, 0, none⟩), .int .u64 150] 115)).alloc (.cells #[v] 78)).alloc (.cells #[.int .i64 k, .int .i64 7] 60)).setRow tb #[.int .i64 k, .int .i64 7]).heap[tb]? = some (.cells #[.int .i64 k, .int .i64 7] tt (0, 0))) := Lib.hid ⟨below_setRow hB (Nat.le_refl _) _, setRow_heap _ _ _ _ _ _ ht5⟩
  clear ht5 hB hE
  have hB3 : Below w.heap.size w (((w.alloc (.cells #[.pointer (some ⟨tb, 0, none⟩)] 81)).alloc (.cells #[.pointer (some ⟨6, 81, none⟩), .pointer (some ⟨w.heap.size, 0, none⟩), .int .u64 150] 115)).alloc (.cells #[.pointer (some ⟨6, 81, none⟩), .pointer (some ⟨w.heap.size, 0, none⟩), .int .u64 150] 115)) := (((Below.refl _ _).alloc (Nat.le_refl _) _).alloc (by simp) _).alloc (by simp; omega) _
  go_enter Tryz.func50, Tryz.ntmps50
  go_wp2
  refine wp_loop_rounds 2 ?_
  rw [rounds_succ]
  go_wp2_with (go_at_call 136; refine (hUn _ hB3).mono ?_; rintro e w' ⟨rfl, rfl⟩)
  rw [rounds_succ]
  go_wp2
  go_ret
  exact ⟨rfl, hfin.out⟩
set_option maxRecDepth 100000 in
set_option maxHeartbeats 4000000 in
/-- errors.Is at a misfit, for ErrForm: true. -/
theorem is_M (k : Int) (v : Value) (w : World) (hUn : ∀ W, Below w.heap.size w W → Calls Tryz.prog 136 #[.agg #[v]] W fun e w' => e = .returned (.iface 60 (.agg #[.int .i64 k, .int .i64 7])) ∧ w' = W.alloc (.cells #[v] 78)) :
    Calls Tryz.prog 51 #[.iface 78 (.agg #[v]), .iface 31 (.int .i64 7)] w fun ev w' => ev = .returned (.bool true) ∧ Below w.heap.size w w' := by
  have h44 := @run_callFunc_extern Tryz.prog 82 _ ReflectliteType.typeOf Tryz.func82 (by kernel_rfl) (by kernel_rfl) (by kernel_rfl) (by kernel_rfl)
  have h82 := @run_callFunc_extern Tryz.prog 143 _ (ReflectliteType.method fun t => do Rtype.noPackHeld "Comparable" t; pure (.bool (← typeInfo t).comparable)) Tryz.func143 (by kernel_rfl) (by kernel_rfl) (by kernel_rfl) (by kernel_rfl)
  have tE := Tryz.typeOfE
  have cE := Tryz.comparableE
  have mC := Tryz.methodComparable
  have nM := Tryz.noIsM
  have uM := Tryz.hasUnwrapM
  have mM := Tryz.methodUnwrapM
  have nF := Tryz.noIsF
  have uF := Tryz.hasUnwrapF
  have mF := Tryz.methodUnwrapF
  have q1 := fun W => run_eql_iface_types (P := Tryz.prog) 78 31 (.agg #[v]) (.int .i64 7) Tryz.underlying45 (by decide) W
  have q2 := fun W => run_eql_iface_types (P := Tryz.prog) 60 31 (.agg #[.int .i64 k, .int .i64 7]) (.int .i64 7) Tryz.underlying45 (by decide) W
  have q3 := eql_errno 7 7
  go_enter Tryz.func51, Tryz.ntmps51
  go_wp2
  refine wp_loop_rounds 3 ?_
  rw [rounds_succ]
  go_wp2_with (go_at_call 136; refine (hUn _ (Below.refl _ _)).mono ?_; rintro e w' ⟨rfl, rfl⟩)
  rw [rounds_succ]
  go_wp2_with (go_at_call 134; refine (unwrapF k 7 _).mono ?_; rintro e w' ⟨rfl, rfl⟩)
  rw [rounds_succ]
  go_wp2
  go_ret
  exact ⟨rfl, ((Below.refl _ _).alloc (Nat.le_refl _) _).alloc (by simp) _⟩
end Go.Proofs.YtlejmpinfbmccaaGreatDoor
