/- One element more, at the head of a row of the call's own (slices.Insert). -/
import Derived.Test.YtejhodjbgablaaaGd
import Derived.Shelf.Spec.SlicesInsertGrow
import Derived.Laws.CopyRow
import Derived.Laws.CopyOwn
set_option linter.unusedSimpArgs false
set_option linter.unusedVariables false
namespace Go.Proofs.Ytejhodjbgablaaa
open Go.RowKit Go.Lib
section
variable {P : Program}
theorem run_copy_rowS (w : World) (dT sT ty elem : TypeId) (size g o dLen dCap : Nat) (a : Addr) (sLen sCap : Nat) (cur : Array Value) (t : TypeId) (cs : List Value)
    (hu : P.underlying dT = some (.slice elem)) (hs : (P.info? elem).map (·.size) = some size) (m : Nat) (hm : m = Nat.min sLen dLen)
    (hg : w.heap[g]? = some (.cells cur t (0, 0))) (hn : cs.length = m * size)
    (hsrc : ∀ j v, cs[j]? = some v → w.cell? (a.add j) = some v) (hfit : o + cs.length ≤ cur.size) (h1 : ∀ v ∈ cs, v.oneCell' = true) :
    (Builtin.copy_ #[dT, sT] ty #[.slice (some ⟨g, o, none⟩) dLen dCap, .slice (some a) sLen sCap]).run P w =
      .ok (goInt m) (w.setRow g (cur.toList.take o ++ cs ++ cur.toList.drop (o + cs.length)).toArray) := by
  have hl := run_loadCells_list (P := P) w a cs hsrc
  have hst := run_storeCells_at P g o t cs 0 cur w hg (by simpa using hfit) h1
  cases hq : P.info? elem with
  | none => simp [hq] at hs
  | some i =>
    have hi : i.size = size := by simpa [hq] using hs
    simp [Builtin.copy_, run_underlying hu, Builtin.lenOf, Builtin.firstCells, sizeOf, typeInfo, hq, hi, ← hm, ← hn, hl, hst]
end
theorem named_size : (Try.prog.info? 43).map (·.size) = some 2 := by kernel_rfl
/-- What is added. -/
abbrev onec (p : Nm) : List Value := [.int .u16 (p.id : Nat), .int .u8 (p.pm : Nat)]
theorem onec_get (w : World) (gv : Nat) (p : Nm) (hv : w.heap[gv]? = some (.cells (onec p).toArray 43 (0, 0))) : ∀ j v, (onec p)[j]? = some v → w.cell? ((⟨gv, 0, none⟩ : Addr).add j) = some v := fun j v hj => by
  rw [add_zero_block, cell_of_row w gv j _ 43 (0, 0) hv]
  simpa using hj
set_option maxRecDepth 100000 in
set_option maxHeartbeats 4000000 in
theorem insert_none (A : Option Addr) (c gv : Nat) (p : Nm) (w : World) (k : Nat) (ho : OwnR w 43 2 A 0 c []) (hv : w.heap[gv]? = some (.cells (onec p).toArray 43 (0, 0))) (hk : k ≤ w.heap.size) (hA : ∀ ad, A = some ad → k ≤ ad.block) :
    Calls Try.prog 51 #[.slice A 0 c, .int .i64 0, .slice (some ⟨gv, 0, none⟩) 1 1] w fun e w' => ∃ B d, e = .returned (.slice B 1 d) ∧ Cel w' B (nv [p]) ∧ Below k w w' := by
  obtain ⟨i0, hi, hz0, hz1, hz2⟩ := info_parts named_info
  have hnews := onec_get w gv p hv
  have HA := Lib.hid hA
  have hcc : 0 ≤ c := Nat.zero_le _
  go_enter Try.func51, Try.ntmps51
  rcases A with _ | ⟨ab, ao, asp⟩
  all_goals
    go_wp2_with (at_builtin; refine wpList_append_r rfl (.tmp 23) (.tmp 24) 26 rfl 43 i0 (.agg #[.int .u16 0, .int .u8 0]) 2 4 Try.underlying26 hi hz0 hz1 hz2 rfl _ 0 c [] rfl ho ⟨gv, 0, none⟩ 1 1 (onec p) rfl rfl hnews (by simp [Value.oneCell']) (by omega) (by unfold maxLen; omega) (by omega) ?_; intro g2 c2 w3 hO3 hG3 hE3)
    have HO := Lib.hid hO3
    have HG := Lib.hid hG3
    clear hO3 hG3 hE3 hnews ho hv
    go_ret
  · exact ⟨some ⟨g2, 0, none⟩, c2, rfl, HO.out.cel, (Below.refl k w).grown HG.out hk (fun _ e => by cases e)⟩
  · exact ⟨some ⟨g2, 0, none⟩, c2, rfl, HO.out.cel, (Below.refl k w).grown HG.out hk (fun _ e => by injection e with e; subst e; exact HA.out _ rfl)⟩
theorem cel_row {w : World} {g : Nat} {cur : Array Value} {t : TypeId} {xs : List Value} (h : w.heap[g]? = some (.cells cur t (0, 0))) (hx : cur.toList.take xs.length = xs) : Cel w (some ⟨g, 0, none⟩) xs := fun _ =>
  ⟨_, rfl, lt_of_cells h, fun j u hu => by
    rw [add_zero_block, cell_of_row w g j _ t (0, 0) h]
    have hj := (List.getElem?_eq_some_iff.1 hu).1
    rw [← Array.getElem?_toList, ← hu]
    conv => rhs; rw [← hx]
    rw [List.getElem?_take_of_lt hj]⟩
set_option maxRecDepth 100000 in
set_option maxHeartbeats 4000000 in
theorem insert_room (g n c gv : Nat) (p : Nm) (L : List Nm) (cur : Array Value) (w : World) (k : Nat) (hn : L.length = n) (hn0 : 0 < n) (hroom : n + 1 ≤ c) (hc : c ≤ 9223372036854775807) (hcur : w.heap[g]? = some (.cells cur 43 (0, 0))) (hcs : c * 2 ≤ cur.size) (htk : cur.toList.take (nv L).length = nv L)
    (hv : w.heap[gv]? = some (.cells (onec p).toArray 43 (0, 0))) (hne : gv ≠ g) (hk : k ≤ g) :
    Calls Try.prog 51 #[.slice (some ⟨g, 0, none⟩) n c, .int .i64 0, .slice (some ⟨gv, 0, none⟩) 1 1] w fun e w' => ∃ B d, e = .returned (.slice B (n + 1) d) ∧ Hid (Cel w' B (nv (p :: L))) ∧ Below k w w' := by
  have hnl : (nv L).length = n * 2 := by rw [nv_length, hn]
  obtain ⟨cur1, hcur1⟩ : ∃ cur1 : Array Value, cur1 = (cur.toList.take 2 ++ nv L ++ cur.toList.drop (2 + (nv L).length)).toArray := ⟨_, rfl⟩
  obtain ⟨cur2, hcur2⟩ : ∃ cur2 : Array Value, cur2 = (cur1.toList.take 0 ++ onec p ++ cur1.toList.drop (0 + (onec p).length)).toArray := ⟨_, rfl⟩
  have hs1 : cur1.size = cur.size := by
    rw [hcur1]
    simp only [List.size_toArray, List.length_append, List.length_take, List.length_drop, Array.length_toList, hnl]
    omega
  have hcell : ∀ j v, (nv L)[j]? = some v → w.drew.cell? ((⟨g, 0, none⟩ : Addr).add j) = some v := fun j v hj => by
    have hr : Cel w (some ⟨g, 0, none⟩) (nv L) := cel_row hcur htk
    obtain ⟨ad, e, _, hh⟩ := hr (by rw [hnl]; omega)
    injection e with e
    subst e
    exact hh j v hj
  have hcp1 : ∀ ty dc sc, (Builtin.copy_ #[26, 26] ty #[.slice (some ⟨g, 2, none⟩) n dc, .slice (some ⟨g, 0, none⟩) (n + 1) sc]).run Try.prog w.drew = .ok (goInt n) (w.drew.setRow g cur1) := fun ty dc sc => by
    rw [hcur1]
    exact run_copy_rowS w.drew _ _ ty 43 2 g 2 n dc ⟨g, 0, none⟩ (n + 1) sc cur 43 (nv L) Try.underlying26 named_size n (by simp only [Nat.min_def]; split <;> omega) hcur hnl hcell (by omega) (nv_one L)
  have hcur' : (w.drew.setRow g cur1).heap[g]? = some (.cells cur1 43 (0, 0)) := setRow_heap w.drew g cur _ 43 _ hcur
  have hv' : (w.drew.setRow g cur1).heap[gv]? = some (.cells (onec p).toArray 43 (0, 0)) := by
    rw [setRow_other w.drew g gv _ hne]; exact hv
  have hcp2 : ∀ ty dc, (Builtin.copy_ #[26, 26] ty #[.slice (some ⟨g, 0, none⟩) (n + 1) dc, .slice (some ⟨gv, 0, none⟩) 1 1]).run Try.prog (w.drew.setRow g cur1) = .ok (goInt 1) ((w.drew.setRow g cur1).setRow g cur2) := fun ty dc => by
    rw [hcur2]
    exact run_copy_rowS _ _ _ ty 43 2 g 0 (n + 1) dc ⟨gv, 0, none⟩ 1 1 cur1 43 (onec p) Try.underlying26 named_size 1 (by simp only [Nat.min_def]; split <;> omega) hcur' rfl (onec_get _ gv p hv') (by rw [hs1]; simp; omega) (by simp [Value.oneCell'])
  have hov : ∀ lb cb, (callFunc 57 #[.slice (some ⟨gv, 0, none⟩) 1 1, .slice (some ⟨g, 2, none⟩) lb cb]).run Try.prog w = .ok (.value (.bool false)) w := fun lb cb => by
    rw [run_callFunc_extern Try.func57 (by kernel_rfl) (by kernel_rfl) (by kernel_rfl) (e := Extern.SlicesOverlaps.overlaps #[26, 26] #[4]) (by kernel_rfl),
      Lib.run_overlaps_apart w 26 4 43 Try.underlying26 2 (fun w => by
        obtain ⟨i0, hi, _, hz1, _⟩ := info_parts named_info
        simp [sizeOf, typeInfo, hi, hz1]) ⟨gv, 0, none⟩ ⟨g, 2, none⟩ 1 1 lb cb hne 43 43 2 cur.size (by simp [World.shape?, hv]) (by simp [World.shape?, hcur]) (by omega) (by simp [World.frozen?, hv]) (by simp [World.frozen?, hv])]
    rfl
  have hfin : ((w.drew.setRow g cur1).setRow g cur2).heap[g]? = some (.cells cur2 43 (0, 0)) := setRow_heap _ g cur1 _ 43 _ hcur'
  have HC : Hid (Cel ((w.drew.setRow g cur1).setRow g cur2) (some ⟨g, 0, none⟩) (nv (p :: L))) := Lib.hid (cel_row hfin (by
    rw [hcur2, hcur1]
    have h2 : (cur.toList.take 2).length = 2 := by rw [List.length_take, Array.length_toList]; omega
    simp only [List.take_zero, List.nil_append, List.toList_toArray, List.append_assoc, Nat.zero_add, nv, List.length_cons, List.length_nil]
    rw [List.drop_left' h2]
    simp))
  have HB : Hid (Below k w ((w.drew.setRow g cur1).setRow g cur2)) := Lib.hid (below_setRow (below_setRow (below_drewN (Below.refl k w) 1) hk cur1) hk cur2)
  clear hfin hv' hcur' hs1 hcell hcur1 hcur2 hnl
  have hz1 : ¬ ((0 : Int) = (n : Int)) := by omega
  have hz3 : ¬ ((c : Int) < (n : Int) + 1) := by omega
  have mixed : Try.prog.follows .mixedOrders = true := by kernel_rfl
  have hw1 : IntKind.i64.wrap 1 = 1 := by rw [IntKind.wrap_i64]; omega
  have hb1 : (1 : Int) ≤ (n : Int) + 1 := by omega
  have hb2 : ¬ (c = 1) := by omega
  have hb4 : ¬ (c = 0) := by omega
  have hb5 : (0 : Int) ≤ (n : Int) + 1 := by omega
  go_enter Try.func51, Try.ntmps51
  go_wp2_with (simp only [hov])
  go_region_law_o (refine step_copy_runI rfl _ _ 26 26 rfl _ _ (by simp [Act.eval, Act.put]) (by simp [Act.eval, Act.put]) (hcp1 _ _ _) ?_)
  generalize w.drew.setRow g cur1 = W1 at *
  go_wp2_with (at_builtin; refine wpList_copy_runI _ rfl _ _ 26 26 rfl _ _ rfl rfl (hcp2 _ _) ?_)
  go_ret
  exact ⟨_, _, rfl, HC, HB.out⟩
set_option maxRecDepth 100000 in
set_option maxHeartbeats 4000000 in
theorem insert_grow (g n c gv : Nat) (p : Nm) (L : List Nm) (w : World) (k : Nat) (hn : L.length = n) (hn0 : 0 < n) (hnc : n ≤ c) (hroom : c < n + 1) (hsm : n ≤ 1099511627776) (hs : Cel w (some ⟨g, 0, none⟩) (nv L))
    (hv : w.heap[gv]? = some (.cells (onec p).toArray 43 (0, 0))) (hk : k ≤ w.heap.size) :
    Calls Try.prog 51 #[.slice (some ⟨g, 0, none⟩) n c, .int .i64 0, .slice (some ⟨gv, 0, none⟩) 1 1] w fun e w' => ∃ B d, e = .returned (.slice B (n + 1) d) ∧ Hid (Cel w' B (nv (p :: L))) ∧ Below k w w' := by
  obtain ⟨i0, hi0, hz0, hzs, hzb⟩ := info_parts named_info
  have hnl : (nv L).length = n * 2 := by rw [nv_length, hn]
  have hold : (Builtin.firstCells i0.size 0 (.slice (some ⟨g, 0, none⟩) 0 c)).run Try.prog w.drew = .ok ([] : List Value).toArray w.drew := by
    rw [hzs]
    exact run_firstCells_some w.drew 2 0 ⟨g, 0, none⟩ 0 c [] (by simp) (fun j v hj => by simp at hj)
  obtain ⟨G, hG⟩ : ∃ G, G = grownCap w (n + 1) c 43 := ⟨_, rfl⟩
  have hGn : n + 1 ≤ G := by rw [hG]; exact grownCap_ge w _ _ _
  have hG63 : G ≤ 9223372036854775807 := by
    have := grownCap_le_maxLen w (n + 1) c 43 (by unfold maxLen; omega)
    rw [← hG] at this
    unfold maxLen at this
    omega
  obtain ⟨ROW, hROW⟩ : ∃ ROW : Array Value, ROW = ([] : List Value).toArray ++ Builtin.zeroCells (Value.agg #[.int .u16 0, .int .u8 0]).cells (n + 1) ++ Builtin.zeroCells (Value.agg #[.int .u16 0, .int .u8 0]).cells (G - (n + 1)) := ⟨_, rfl⟩
  have hRl : (n + 1) * 2 ≤ ROW.size := by
    rw [hROW]
    simp only [Array.size_append, size_zeroCells, Value.cells, List.size_toArray, List.length_nil]
    simp
  have hrz : ∀ ty, (Builtin.append_ #[26, 3] ty #[.slice (some ⟨g, 0, none⟩) 0 c, .int .i64 ((n : Int) + 1)]).run Try.prog w = .ok (.slice (some ⟨w.heap.size, 0, none⟩) (n + 1) G) (w.drew.alloc (.cells ROW 43)) := fun ty => by
    have h := Lib.run_append_grow_zeros w 26 3 ty 43 i0 _ .i64 .i64 Try.underlying26 Try.underlying3 hi0 hz0 (some ⟨g, 0, none⟩) 0 c [] hold (n + 1) (by omega) (by omega) (by omega) (by omega) (by rw [hzb]; omega) (by rw [hzb, Nat.zero_add]; exact growslice_fits hroom (by omega))
    rw [Nat.zero_add, ← hG, ← hROW] at h
    have e : ((n + 1 : Nat) : Int) = (n : Int) + 1 := by omega
    rw [e] at h
    exact h
  have hglt : g < w.heap.size := by
    obtain ⟨ad, e, hl, _⟩ := hs (by rw [hnl]; omega)
    injection e with e
    subst e
    exact hl
  have hvlt := lt_of_cells hv
  obtain ⟨W1, hW1⟩ : ∃ W1, W1 = w.drew.alloc (.cells ROW 43) := ⟨_, rfl⟩
  have hrow : W1.heap[w.heap.size]? = some (.cells ROW 43 (0, 0)) := by rw [hW1]; exact heap_alloc_new w.drew _
  have hb1 : Below w.heap.size w W1 := by rw [hW1]; exact (below_drewN (Below.refl _ w) 1).alloc (Nat.le_refl _) _
  rw [← hW1] at hrz
  have hgN : g ≠ w.heap.size := by omega
  have hvN : gv ≠ w.heap.size := by omega
  have hv1 : W1.heap[gv]? = some (.cells (onec p).toArray 43 (0, 0)) := (hb1.block gv hvlt).trans hv
  obtain ⟨N, hN⟩ : ∃ N, w.heap.size = N := ⟨_, rfl⟩
  rw [hN] at hrz hrow hgN hvN
  obtain ⟨R1, hR1⟩ : ∃ R1 : Array Value, R1 = (ROW.toList.take 0 ++ onec p ++ ROW.toList.drop (0 + (onec p).length)).toArray := ⟨_, rfl⟩
  have hcpA : ∀ ty, (Builtin.copy_ #[26, 26] ty #[.slice (some ⟨N, 0, none⟩) (n + 1) G, .slice (some ⟨gv, 0, none⟩) 1 1]).run Try.prog W1 = .ok (goInt 1) (W1.setRow N R1) := fun ty => by
    rw [hR1]
    exact run_copy_rowS _ _ _ ty 43 2 N 0 (n + 1) G ⟨gv, 0, none⟩ 1 1 ROW 43 (onec p) Try.underlying26 named_size 1 (by simp only [Nat.min_def]; split <;> omega) hrow rfl (onec_get _ gv p hv1) (by simp; omega) (by simp [Value.oneCell'])
  have hs1 : R1.size = ROW.size := by
    rw [hR1]
    simp only [List.size_toArray, List.length_append, List.length_take, List.length_drop, Array.length_toList, List.length_cons, List.length_nil]
    omega
  have hrow1 : (W1.setRow N R1).heap[N]? = some (.cells R1 43 (0, 0)) := setRow_heap W1 N ROW _ 43 _ hrow
  obtain ⟨W2, hW2⟩ : ∃ W2, W2 = W1.setRow N R1 := ⟨_, rfl⟩
  rw [← hW2] at hcpA hrow1
  have hb2 : Below w.heap.size w W2 := by rw [hW2]; exact below_setRow hb1 (by omega) _
  have hcell : ∀ j v, (nv L)[j]? = some v → W2.drew.cell? ((⟨g, 0, none⟩ : Addr).add j) = some v := fun j v hj => by
    obtain ⟨ad, e, _, hh⟩ := (hs.below hb2) (by rw [hnl]; omega)
    injection e with e
    subst e
    exact hh j v hj
  obtain ⟨R2, hR2⟩ : ∃ R2 : Array Value, R2 = (R1.toList.take 2 ++ nv L ++ R1.toList.drop (2 + (nv L).length)).toArray := ⟨_, rfl⟩
  have hcpB : ∀ ty dc sc, (Builtin.copy_ #[26, 26] ty #[.slice (some ⟨N, 2, none⟩) n dc, .slice (some ⟨g, 0, none⟩) n sc]).run Try.prog W2.drew = .ok (goInt n) (W2.drew.setRow N R2) := fun ty dc sc => by
    rw [hR2]
    exact run_copy_rowS W2.drew _ _ ty 43 2 N 2 n dc ⟨g, 0, none⟩ n sc R1 43 (nv L) Try.underlying26 named_size n (by simp only [Nat.min_def]; split <;> omega) hrow1 hnl hcell (by omega) (nv_one L)
  have hfin : (W2.drew.setRow N R2).heap[N]? = some (.cells R2 43 (0, 0)) := setRow_heap W2.drew N R1 _ 43 _ hrow1
  have HC : Hid (Cel (W2.drew.setRow N R2) (some ⟨N, 0, none⟩) (nv (p :: L))) := Lib.hid (cel_row hfin (by
    rw [hR2, hR1]
    simp only [List.take_zero, List.nil_append, List.toList_toArray, List.append_assoc, Nat.zero_add, nv, List.length_cons, List.length_nil]
    simp))
  have HB : Hid (Below k w (W2.drew.setRow N R2)) := Lib.hid (below_setRow (below_drewN (hb2.mono hk) 1) (by omega) R2)
  clear hfin hcell hrow1 hs1 hR1 hR2 hv1 hrow hb1 hb2 hvlt hglt hRl hROW hold hW1 hG hnl hs hv hN hk
  have hz1 : ¬ ((0 : Int) = (n : Int)) := by omega
  have hz3 : (c : Int) < (n : Int) + 1 := by omega
  have mixed : Try.prog.follows .mixedOrders = true := by kernel_rfl
  have hw1 : IntKind.i64.wrap 1 = 1 := by rw [IntKind.wrap_i64]; omega
  have hb1 : (1 : Int) ≤ (n : Int) + 1 := by omega
  have hg2 : ¬ (G = 1) := by omega
  have hg4 : ¬ (G = 0) := by omega
  have hc4 : ¬ (c = 0) := by omega
  have hb5 : (0 : Int) ≤ (n : Int) + 1 := by omega
  have hb6 : (0 : Int) ≤ (n : Int) := by omega
  go_enter Try.func51, Try.ntmps51
  go_wp2_with (first
    | (at_builtin; refine Lib.wpList_append_run _ rfl _ _ _ _ rfl _ _ rfl rfl _ _ (hrz _) ?_)
    | (at_builtin; refine wpList_copy_runI _ rfl _ _ 26 26 rfl _ _ rfl rfl (hcpA _) ?_))
  rw [← hW2]
  clear hW2
  go_region_law_o (refine step_copy_runI rfl _ _ 26 26 rfl _ _ (by simp [Act.eval, Act.put]) (by simp [Act.eval, Act.put]) (hcpB _ _ _) ?_)
  generalize W2.drew.setRow N R2 = W3 at *
  go_wp2_with (fail)
  go_ret
  exact ⟨_, _, rfl, HC, HB.out⟩
end Go.Proofs.Ytejhodjbgablaaa
