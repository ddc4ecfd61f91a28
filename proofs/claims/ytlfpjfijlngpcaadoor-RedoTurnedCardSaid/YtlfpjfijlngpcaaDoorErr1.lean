/- errors.As at a variable of a struct type: an error of that very type is found, and stored. -/
import Derived.Test.YtlfpjfijlngpcaaDoorErr0
import Derived.Laws.CopyRow
import Derived.Laws.CopyOwn
import Derived.Laws.Cells
import Derived.Laws.Rows
set_option linter.unusedSimpArgs false
set_option linter.unusedVariables false
namespace Go.Proofs.YtlfpjfijlngpcaaDoor
open Go.RowKit Go.Extern.Stop Go.Stop Go.Extern
theorem heap_old {w : World} {o : Obj} {g : Nat} (h : g < w.heap.size) : (w.alloc o).heap[g]? = w.heap[g]? := by
  unfold World.alloc
  rw [Array.getElem?_push, if_neg (by omega)]
theorem heap_new' {w : World} {o : Obj} {g : Nat} (h : g = w.heap.size) : (w.alloc o).heap[g]? = some o := by
  subst h; exact heap_alloc_new w o
theorem cells_of_heap {w : World} {b : Nat} {cs : List Value} {tt : TypeId} {fz : Nat × Nat} (h : w.heap[b]? = some (.cells cs.toArray tt fz)) : ∀ j v, cs[j]? = some v → w.cell? ((⟨b, 0, none⟩ : Addr).add j) = some v := by
  intro j v hv
  have e : (⟨b, 0, none⟩ : Addr).add j = ⟨b, j, none⟩ := by
    simp only [Addr.add]
    split
    · rename_i h0; subst h0; rfl
    · simp
  rw [e, cell_of_row w b j _ tt fz h]
  simpa using hv
/-- errors.As(nil, target). -/
theorem as_nil (t : Value) (w : World) :
    Calls Tryd.prog 26 #[.nilIface, t] w fun e w' => e = .returned (.bool false) ∧ w' = w := by
  go_enter Tryd.func26, Tryd.ntmps26
  go_wp2
  go_ret
  exact ⟨rfl, rfl⟩

theorem Tryd.loadF (b : Nat) (cs : List Value) (tt : TypeId) (fz : Nat × Nat) (W : World) (hn : cs.length = 2) (hb : W.heap[b]? = some (.cells cs.toArray tt fz)) : (loadVar 52 ⟨b, 0, none⟩).run Tryd.prog W = .ok (.agg cs.toArray) W := by
  have h := run_loadCells_list (P := Tryd.prog) W ⟨b, 0, none⟩ cs (cells_of_heap hb)
  rw [hn] at h
  unfold loadVar
  simp [Sem.run_bind, Result.andThen, h]
theorem Tryd.setF (tb b : Nat) (cs old : List Value) (tt tt' : TypeId) (fz : Nat × Nat) (W : World) (hn : cs.length = 2) (ho : old.length = 2) (h1 : ∀ v ∈ cs, v.oneCell' = true)
    (hb : W.heap[b]? = some (.cells cs.toArray tt fz)) (ht : W.heap[tb]? = some (.cells old.toArray tt' (0, 0))) :
    (ReflectliteValue.set #[.agg #[.pointer (some ⟨6, 52, none⟩), .pointer (some ⟨tb, 0, none⟩), .int .u64 409], .agg #[.pointer (some ⟨6, 52, none⟩), .pointer (some ⟨b, 0, none⟩), .int .u64 153]]).run Tryd.prog W
      = .ok (.tuple #[]) (W.setRow tb cs.toArray) := by
  have hl := Tryd.loadF b cs tt fz W hn hb
  have hs := run_storeCells_at (P := Tryd.prog) tb 0 tt' cs 0 old.toArray W ht (by simp <;> omega) h1
  rw [show (old.toArray.toList.take (0 + 0) ++ cs ++ old.toArray.toList.drop (0 + 0 + cs.length)) = cs by simp; omega] at hs
  show Sem.run _ (bind (ReflectliteValue.parts (.agg #[.pointer (some ⟨6, 52, none⟩), .pointer (some ⟨tb, 0, none⟩), .int .u64 409])) fun _ => bind (ReflectliteValue.parts (.agg #[.pointer (some ⟨6, 52, none⟩), .pointer (some ⟨b, 0, none⟩), .int .u64 153])) _) _ = _
  simp only [Sem.run_bind, Tryd.partsFa, Tryd.partsF, Result.andThen]
  simp [ReflectliteValue.flagAddr, hl, Result.andThen, Tryd.directF, storeVar, Value.cells, hn, hs]

set_option maxRecDepth 100000 in
set_option maxHeartbeats 4000000 in
/-- errors.As at an error that is a api.Fault itself. -/
theorem as_F (v0 v1 o0 o1 : Value) (tt : TypeId) (tb : Nat) (w : World) (hE : ErrAt w) (ht : w.heap[tb]? = some (.cells #[o0, o1] tt (0, 0))) (h1 : ∀ v ∈ [v0, v1], v.oneCell' = true) :
    Calls Tryd.prog 26 #[.iface 52 (.agg #[v0, v1]), .iface 62 (.pointer (some ⟨tb, 0, none⟩))] w fun ev w' => ev = .returned (.bool true) ∧ Below tb w w' ∧ w'.heap[tb]? = some (.cells #[v0, v1] tt (0, 0)) := by
  have h35 := @run_callFunc_extern Tryd.prog 33 _ (fun args => ReflectliteValue.unpack (args.getD 0 (.tuple #[]))) Tryd.func33 (by kernel_rfl) (by kernel_rfl) (by kernel_rfl) (by kernel_rfl)
  have h36 := @run_callFunc_extern Tryd.prog 34 _ (ReflectliteValue.methodAny (ReflectliteValue.valueError "reflectlite.Value.Type" 0) (fun t _ _ _ => ReflectliteType.toType t)) Tryd.func34 (by kernel_rfl) (by kernel_rfl) (by kernel_rfl) (by kernel_rfl)
  have h37 := @run_callFunc_extern Tryd.prog 35 _ (ReflectliteValue.method (ReflectliteValue.valueError "reflectlite.Value.IsNil" 0) ReflectliteValue.isNil) Tryd.func35 (by kernel_rfl) (by kernel_rfl) (by kernel_rfl) (by kernel_rfl)
  have h69 := @run_callFunc_extern Tryd.prog 59 _ (ReflectliteType.abiMethod fun t => do pure (.int .u8 (← Rtype.kind t))) Tryd.func59 (by kernel_rfl) (by kernel_rfl) (by kernel_rfl) (by kernel_rfl)
  have h83 := @run_callFunc_extern Tryd.prog 73 _ (ReflectliteType.method ReflectliteType.elem) Tryd.func73 (by kernel_rfl) (by kernel_rfl) (by kernel_rfl) (by kernel_rfl)
  have h84 := @run_callFunc_extern Tryd.prog 74 _ (ReflectliteType.relation "Implements" ReflectliteType.implements_) Tryd.func74 (by kernel_rfl) (by kernel_rfl) (by kernel_rfl) (by kernel_rfl)
  have h44 := @run_callFunc_extern Tryd.prog 31 _ ReflectliteType.typeOf Tryd.func31 (by kernel_rfl) (by kernel_rfl) (by kernel_rfl) (by kernel_rfl)
  have h81 := @run_callFunc_extern Tryd.prog 71 _ (ReflectliteType.relation "AssignableTo" ReflectliteType.assignableTo) Tryd.func71 (by kernel_rfl) (by kernel_rfl) (by kernel_rfl) (by kernel_rfl)
  have h49 := @run_callFunc_extern Tryd.prog 40 _ (ReflectliteValue.method (ReflectliteValue.valueError "reflectlite.Value.Elem" 0) ReflectliteValue.elem) Tryd.func40 (by kernel_rfl) (by kernel_rfl) (by kernel_rfl) (by kernel_rfl)
  have h50 := @run_callFunc_extern Tryd.prog 41 _ ReflectliteValue.set Tryd.func41 (by kernel_rfl) (by kernel_rfl) (by kernel_rfl) (by kernel_rfl)
  have tO := Tryd.typeOfF
  have mA := Tryd.methodAssignableTo
  have aN := Tryd.assignableF
  have vN := Tryd.valueOfF
  have f6 := Tryd.valueOfPF
  have f7 := Tryd.typePF
  have mK := Tryd.methodKind
  have mE := Tryd.methodElem
  have mI := Tryd.methodImplements
  have kP := Tryd.kindPF
  have kN := Tryd.kindF
  have eP := Tryd.elemPF
  have iN := Tryd.implementsF
  have hlt := hE.lt
  have htl : tb < w.heap.size := by
    rcases Nat.lt_or_ge tb w.heap.size with h | h
    · exact h
    · rw [Array.getElem?_eq_none h] at ht; cases ht
  have n8 := Tryd.isNilPF ⟨w.heap.size, 0, none⟩ ⟨tb, 0, none⟩ ((w.alloc (.cells #[.pointer (some ⟨tb, 0, none⟩)] 62)).alloc (.cells #[.pointer (some ⟨6, 62, none⟩), .pointer (some ⟨w.heap.size, 0, none⟩), .int .u64 150] 77)) (by simp)
  have hg2 : ((w.alloc (.cells #[.pointer (some ⟨tb, 0, none⟩)] 62)).alloc (.cells #[.pointer (some ⟨6, 62, none⟩), .pointer (some ⟨w.heap.size, 0, none⟩), .int .u64 150] 77)).cell? ⟨4, 0, none⟩ = some (.iface 92 (.agg #[.pointer (some ⟨6, 41, none⟩)])) := by
    rw [World.cell?_alloc_lt _ _ ⟨4, 0, none⟩ (by simp <;> omega), World.cell?_alloc_lt _ _ ⟨4, 0, none⟩ hlt]; exact hE
  have el := Tryd.elemVPF ⟨w.heap.size, 0, none⟩ ⟨tb, 0, none⟩ (((w.alloc (.cells #[.pointer (some ⟨tb, 0, none⟩)] 62)).alloc (.cells #[.pointer (some ⟨6, 62, none⟩), .pointer (some ⟨w.heap.size, 0, none⟩), .int .u64 150] 77)).alloc (.cells #[.pointer (some ⟨6, 62, none⟩), .pointer (some ⟨w.heap.size, 0, none⟩), .int .u64 150] 77)) (by rw [World.cell?_alloc_lt _ _ ⟨w.heap.size, 0, none⟩ (by simp <;> omega)]; simp)
  have ht4 : ((((w.alloc (.cells #[.pointer (some ⟨tb, 0, none⟩)] 62)).alloc (.cells #[.pointer (some ⟨6, 62, none⟩), .pointer (some ⟨w.heap.size, 0, none⟩), .int .u64 150] 77)).alloc (.cells #[.pointer (some ⟨6, 62, none⟩), .pointer (some ⟨w.heap.size, 0, none⟩), .int .u64 150] 77)).alloc (.cells #[v0, v1] 52)).heap[tb]? = some (.cells #[o0, o1] tt (0, 0)) := by
    rw [heap_old (by simp <;> omega), heap_old (by simp <;> omega), heap_old (by simp <;> omega), heap_old htl]; exact ht
  have st := Tryd.setF tb (w.heap.size + 1 + 1 + 1) [v0, v1] [o0, o1] 52 tt (0, 0) ((((w.alloc (.cells #[.pointer (some ⟨tb, 0, none⟩)] 62)).alloc (.cells #[.pointer (some ⟨6, 62, none⟩), .pointer (some ⟨w.heap.size, 0, none⟩), .int .u64 150] 77)).alloc (.cells #[.pointer (some ⟨6, 62, none⟩), .pointer (some ⟨w.heap.size, 0, none⟩), .int .u64 150] 77)).alloc (.cells #[v0, v1] 52)) rfl rfl h1 (by rw [heap_new' (by simp)]) ht4
  have hB : Below tb w ((((w.alloc (.cells #[.pointer (some ⟨tb, 0, none⟩)] 62)).alloc (.cells #[.pointer (some ⟨6, 62, none⟩), .pointer (some ⟨w.heap.size, 0, none⟩), .int .u64 150] 77)).alloc (.cells #[.pointer (some ⟨6, 62, none⟩), .pointer (some ⟨w.heap.size, 0, none⟩), .int .u64 150] 77)).alloc (.cells #[v0, v1] 52)) := ((((Below.refl _ _).alloc (by omega) _).alloc (by simp <;> omega) _).alloc (by simp <;> omega) _).alloc (by simp <;> omega) _
  have hfin : Hid (Below tb w (((((w.alloc (.cells #[.pointer (some ⟨tb, 0, none⟩)] 62)).alloc (.cells #[.pointer (some ⟨6, 62, none⟩), .pointer (some ⟨w.heap.size, 0, none⟩), .int .u64 150] 77)).alloc (.cells #[.pointer (some ⟨6, 62, none⟩), .pointer (some ⟨w.heap.size, 0, none⟩), .int .u64 150] 77)).alloc (.cells #[v0, v1] 52)).setRow tb #[v0, v1]) ∧ (((((w.alloc (.cells #[.pointer (some ⟨tb, 0, none⟩)] 62)).alloc (.cells #[.pointer (some ⟨6, 62, none⟩), .pointer (some ⟨w.heap.size, 0, none⟩), .int .u64 150] 77)).alloc (.cells #[.pointer (some ⟨6, 62, none⟩), .pointer (some ⟨w.heap.size, 0, none⟩), .int .u64 150] 77)).alloc (.cells #[v0, v1] 52)).setRow tb #[v0, v1]).heap[tb]? = some (.cells #[v0, v1] tt (0, 0))) := Lib.hid ⟨below_setRow hB (Nat.le_refl _) _, setRow_heap _ _ _ _ _ _ ht4⟩
  clear ht4 hB hE
  go_enter Tryd.func26, Tryd.ntmps26
  go_wp2
  refine wp_loop_rounds 1 ?_
  rw [rounds_succ]
  go_wp2
  go_ret
  exact ⟨rfl, hfin.out⟩
end Go.Proofs.YtlfpjfijlngpcaaDoor
