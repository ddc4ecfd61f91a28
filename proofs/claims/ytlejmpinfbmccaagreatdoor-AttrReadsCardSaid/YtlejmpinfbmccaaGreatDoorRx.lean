/- The document's reading of attributes: its results' blocks; words that are not marked, or not sealed. -/
import Derived.Test.YtlejmpinfbmccaaGreatDoorRm
import Derived.Test.YtlejmpinfbmccaaGreatDoorLs
import Derived.Test.YtlejmpinfbmccaaGreatDoorTo
import Derived.Test.YtlejmpinfbmccaaGreatDoorAtStp
import Derived.Test.YtlejmpinfbmccaaGreatDoorReg
set_option linter.unusedSimpArgs false
set_option linter.unusedVariables false
set_option linter.unusedSimpArgs false
set_option linter.unusedVariables false
namespace Go.Proofs.YtlejmpinfbmccaaGreatDoor
open Go.RowKit SumMath WordMath
theorem two_one (k n : Int) : (#[.int .i64 k, .int .i64 n] : Array Value).all (·.oneCell') = true := by rw [← Array.all_toList]; rfl
theorem fault_size : (Tryz.prog.info? 60).map (·.size) = some 2 := by kernel_rfl
theorem results_row_row {P : Program} {fn : Func} {p q : Tmp} {tp tq : TypeId} (h : fn.results = #[.cell p tp, .cell q tq]) (tmps : Array Value) (w : World) (g : Nat) (cs : Array Value) (g' : Nat) (cs' : Array Value)
    (hp : tmps.getD p undef = .pointer (some ⟨g, 0, none⟩)) (hq : tmps.getD q undef = .pointer (some ⟨g', 0, none⟩))
    (hl : (loadVar tp ⟨g, 0, none⟩).run P w = .ok (.agg cs) w) (hl' : (loadVar tq ⟨g', 0, none⟩).run P w = .ok (.agg cs') w) :
    (results fn tmps).run P w = .ok (.tuple #[.agg cs, .agg cs']) w := by
  have hp' : tmps[p]?.getD undef = .pointer (some ⟨g, 0, none⟩) := by simpa using hp
  have hq' : tmps[q]?.getD undef = .pointer (some ⟨g', 0, none⟩) := by simpa using hq
  simp [results, h, hp', hq', asAddr, Result.andThen, hl, hl']
/-- The results' blocks: attributes, a fault. -/
structure Rra (w0 w : World) : Prop where
  on : Below w0.heap.size w0 w
  res : w.heap[w0.heap.size]? = some (.cells zA 28 (0, 0))
  flt : w.heap[w0.heap.size + 1]? = some (.cells #[.int .i64 0, .int .i64 0] 60 (0, 0))
theorem Rra.on' {w0 w w' : World} (h : Rra w0 w) (hb : Below w.heap.size w w') : Rra w0 w' :=
  ⟨h.on.trans (hb.mono h.on.size), (hb.block _ (lt_of_cells h.res)).trans h.res, (hb.block _ (lt_of_cells h.flt)).trans h.flt⟩
theorem Rra.keep {w0 w w' : World} {F : Nat → Prop} (h : Rra w0 w) (ho : Only F w w') (hF : ∀ i, F i → w0.heap.size + 1 < i) : Rra w0 w' :=
  ⟨h.on.trans (ho.below h.on.size (fun i hi => by have := hF i hi; omega)), (ho.block _ (lt_of_cells h.res) (fun hh => by have := hF _ hh; omega)).trans h.res, (ho.block _ (lt_of_cells h.flt) (fun hh => by have := hF _ hh; omega)).trans h.flt⟩
theorem Rra.flt2 {w0 w : World} (h : Rra w0 w) (C : Array Value) : (w.setRow w0.heap.size C).heap[w0.heap.size + 1]? = some (.cells #[.int .i64 0, .int .i64 0] 60 (0, 0)) :=
  (setRow_other w w0.heap.size (w0.heap.size + 1) _ (by omega)).trans h.flt
theorem Rra.fin {w0 w : World} (h : Rra w0 w) (C : Array Value) (k n : Int) : ((w.setRow w0.heap.size C).setRow (w0.heap.size + 1) #[.int .i64 k, .int .i64 n]).heap[w0.heap.size]? = some (.cells C 28 (0, 0)) ∧
    ((w.setRow w0.heap.size C).setRow (w0.heap.size + 1) #[.int .i64 k, .int .i64 n]).heap[w0.heap.size + 1]? = some (.cells #[.int .i64 k, .int .i64 n] 60 (0, 0)) ∧
    Below w0.heap.size w0 ((w.setRow w0.heap.size C).setRow (w0.heap.size + 1) #[.int .i64 k, .int .i64 n]) :=
  ⟨(setRow_other _ (w0.heap.size + 1) w0.heap.size _ (by omega)).trans (setRow_heap w w0.heap.size _ C 28 (0, 0) h.res), setRow_heap _ (w0.heap.size + 1) _ _ 60 (0, 0) (h.flt2 C),
    below_setRow (below_setRow h.on (Nat.le_refl _) _) (Nat.le_succ _) _⟩
theorem Rra.new (w : World) : Rra w ((w.alloc (.cells zA 28)).alloc (.cells #[.int .i64 0, .int .i64 0] 60)) := by
  have b1 : Below w.heap.size w (w.alloc (.cells zA 28)) := (Below.refl _ _).alloc (Nat.le_refl _) _
  have b2 : Below (w.alloc (.cells zA 28)).heap.size (w.alloc (.cells zA 28)) ((w.alloc (.cells zA 28)).alloc (.cells #[.int .i64 0, .int .i64 0] 60)) := (Below.refl _ _).alloc (Nat.le_refl _) _
  refine ⟨b1.trans (b2.mono (by simp)), (b2.block _ (by simp)).trans (heap_alloc_new w _), ?_⟩
  have h := heap_alloc_new (w.alloc (.cells zA 28)) (.cells #[.int .i64 0, .int .i64 0] 60)
  rwa [World.size_alloc] at h
theorem rra_results {w0 w : World} {C : Array Value} {k n : Int} {tmps : Array Value} (h1 : w.heap[w0.heap.size]? = some (.cells C 28 (0, 0))) (hsz : (Tryz.prog.info? 28).map (·.size) = some C.size) (h2 : w.heap[w0.heap.size + 1]? = some (.cells #[.int .i64 k, .int .i64 n] 60 (0, 0)))
    (hp : tmps.getD 2 undef = .pointer (some ⟨w0.heap.size, 0, none⟩)) (hq : tmps.getD 3 undef = .pointer (some ⟨w0.heap.size + 1, 0, none⟩)) :
    (results Tryz.f46 tmps).run Tryz.prog w = .ok (.tuple #[.agg C, .agg #[.int .i64 k, .int .i64 n]]) w :=
  results_row_row rfl _ _ w0.heap.size C (w0.heap.size + 1) _ hp hq (run_loadVar_row (P := Tryz.prog) _ w0.heap.size 28 28 _ (0, 0) _ h1 Tryz.underlying28 rfl hsz) (run_loadVar_row (P := Tryz.prog) _ (w0.heap.size + 1) 60 60 _ (0, 0) _ h2 Tryz.underlying60 rfl fault_size)
/-- What is read. -/
def RDec (l : List Nat) (w : World) (e : Ending) (w' : World) : Prop := ∃ p, e = .returned (.tuple #[(attA l).v p, fV (badA l)]) ∧ ALies w' (attA l) p ∧ Below w.heap.size w w'
set_option maxRecDepth 100000 in
set_option maxHeartbeats 4000000 in
theorem rdec_0 (A : Option Addr) (l : List Nat) (c : Nat) (w : World) (hr : Row w A l) (hl : Wd l) (hm : mkB l = false) :
    Calls Tryz.prog 46 #[.slice A l.length c] w (RDec l w) := by
  obtain ⟨V, hV⟩ : ∃ V, V = (w.alloc (.cells zA 28)).alloc (.cells #[.int .i64 0, .int .i64 0] 60) := ⟨_, rfl⟩
  have R0 : Hid (Rra w V) := Lib.hid (by rw [hV]; exact Rra.new w)
  have HV : Hid (badA l = some 0) := Lib.hid (by unfold badA; rw [if_pos hm])
  have HB := Lib.hid (hr.below R0.out.on)
  unfold RDec
  by_cases h32 : l.length = 32
  case neg =>
    have d1 : ((l.length : Int) == 32) = false := by rw [beq_eq_false_iff_ne]; omega
    have d2 : ((l.length : Int) != 32) = true := by rw [bne_iff_ne]; omega
    clear hr hl hm
    go_enter Tryz.func46, Tryz.ntmps46
    go_upto_region 1 with (fail)
    rw [← hV]
    clear hV
    go_upto_region 2 with (fail)
    clear d1 d2
    go_wp2_with (first
      | (refine wpList_buildTo rfl 28 #[] rfl (some 22) rfl zA (by simpa using built_zA) ?_)
      | (refine wpList_store_rowTo rfl 28 (.tmp 2) (.tmp 22) rfl rfl w.heap.size zA rfl rfl 28 _ R0.out.res attr_size rfl zA_one ?_)
      | (refine wpList_store_rowTo rfl 60 (.tmp 3) (.tmp 23) rfl rfl (w.heap.size + 1) #[.int .i64 0, .int .i64 7] rfl rfl 60 _ (R0.out.flt2 zA) fault_size rfl (two_one _ _) ?_))
    obtain ⟨q1, q2, q3⟩ := R0.out.fin zA 0 7
    exact bodyPost_ret (v := .tuple #[.agg zA, .agg #[.int .i64 0, .int .i64 7]]) (rra_results q1 attr_size q2 rfl rfl) rfl ⟨alieZ, by rw [HV.out, attA_bad HV.out]; rfl, by rw [attA_bad HV.out]; exact alies_Z _, q3⟩
  case pos =>
  rw [mk_word h32 hl, decide_eq_false_iff_not] at hm
  have hw0 := hl 0
  obtain ⟨ad, rfl, hlt, hcs⟩ := HB.out (by omega)
  have hcl := hcs 0 (by omega)
  rw [show ad.add 0 = ad by unfold Addr.add; simp] at hcl
  rw [h32]
  obtain ⟨x0, hx0⟩ : ∃ x0, l.getD 0 0 = x0 := ⟨_, rfl⟩
  rw [hx0] at hm hw0 hcl
  have d1 : (((x0 : Int) / 4294967296) == 1096045650) = false := by rw [beq_eq_false_iff_ne]; omega
  have d2 : (((x0 : Int) / 4294967296) != 1096045650) = true := by rw [bne_iff_ne]; omega
  have d3 : (((x0 : Int) / 2 ^ 32) != 1096045650) = true := d2
  clear hr hl hcs hx0 hm
  go_enter Tryz.func46, Tryz.ntmps46
  go_upto_region 1 with (fail)
  rw [← hV]
  clear hV
  go_upto_region 2 with (fail)
  clear d1 d2 d3 hcl hlt
  go_wp2_with (first
    | (refine wpList_buildTo rfl 28 #[] rfl (some 22) rfl zA (by simpa using built_zA) ?_)
    | (refine wpList_store_rowTo rfl 28 (.tmp 2) (.tmp 22) rfl rfl w.heap.size zA rfl rfl 28 _ R0.out.res attr_size rfl zA_one ?_)
    | (refine wpList_store_rowTo rfl 60 (.tmp 3) (.tmp 23) rfl rfl (w.heap.size + 1) #[.int .i64 0, .int .i64 7] rfl rfl 60 _ (R0.out.flt2 zA) fault_size rfl (two_one _ _) ?_))
  obtain ⟨q1, q2, q3⟩ := R0.out.fin zA 0 7
  exact bodyPost_ret (v := .tuple #[.agg zA, .agg #[.int .i64 0, .int .i64 7]]) (rra_results q1 attr_size q2 rfl rfl) rfl ⟨alieZ, by rw [HV.out, attA_bad HV.out]; rfl, by rw [attA_bad HV.out]; exact alies_Z _, q3⟩
end Go.Proofs.YtlejmpinfbmccaaGreatDoor
