/- The chapter's examples hold. -/
import Derived.Test.YtaafchcpnceddaaDoorUg
import Derived.Test.YtaafchcpnceddaaDoorUd
set_option linter.unusedSimpArgs false
set_option linter.unusedVariables false
namespace Go.Proofs.YtaafchcpnceddaaDoor
open Go.RowKit WordMath
theorem large_calls (A : Option Addr) (l : List Nat) (c : Nat) (w : World) (hlen : l.length ≤ 9223372036854775807) :
    Calls Tryd.prog 8 #[.slice A l.length c] w fun e w' => e = .returned (.bool (decide (40 < l.length))) ∧ w = w' := by
  have key : Hid (decide ((40 : Int) < (l.length : Int)) = decide (40 < l.length)) := by
    show _ = _
    rw [decide_eq_decide]; omega
  go_enter Tryd.func8, Tryd.ntmps8
  go_wp2
  go_ret
  rw [← key.out]
  exact ⟨rfl, rfl⟩
theorem wd_small {l : List Nat} (h : l.all (fun x => decide (x < 18446744073709551616)) = true) : Wd l := fun k => by
  rw [List.all_eq_true] at h
  rw [List.getD_eq_getElem?_getD]
  rcases Nat.lt_or_ge k l.length with hk | hk
  · rw [List.getElem?_eq_getElem hk]
    simpa using h _ (List.getElem_mem hk)
  · rw [List.getElem?_eq_none hk]; decide
theorem cel_lit (w : World) (l : List Int) (t : TypeId) : Cel (w.alloc (.cells (iv l).toArray t)) (some ⟨w.heap.size, 0, none⟩) (iv l) := fun _ =>
  ⟨_, rfl, by rw [World.size_alloc]; exact Nat.lt_succ_self _, fun j u hu => by rw [add_zero_block, cell_of_row _ _ j _ t (0, 0) (heap_alloc_new w _), ← hu, List.getElem?_toArray]⟩
theorem row_lit (w : World) (l : List Nat) : Row (w.alloc (.cells (wv l).toArray 38)) (some ⟨w.heap.size, 0, none⟩) l := Blk.row (e := 38) (heap_alloc_new w _)
theorem e1 : takeE [5, 0] 70 3 = 0 ∧ takeG [5, 0] 70 3 = [2, 4, 5] ∧ takeR [5, 0] 70 3 = [31, 0] := by decide +kernel
theorem e2 : takeE [7] 3 1 = 4 ∧ takeG [7] 3 1 = [] ∧ takeR [7] 3 1 = [] := by decide +kernel
theorem e3 : dropE [7] 64 [2, 1] = 0 ∧ dropR [7] 64 [2, 1] = [4] := by decide +kernel
theorem e4 : dropE [7] 64 [2, 2] = 6 ∧ dropR [7] 64 [2, 2] = [] := by decide +kernel
theorem e5 : freeV [7] 10 = 7 ∧ freeE [7] 10 = 0 := by decide +kernel
theorem e6 : ni (turnedL [1, 2, 3] [1, 5, 4, 6]) = [1, 2] := by decide +kernel
set_option maxRecDepth 100000 in
theorem alive_calls (w : World) (hT : TabAt w) : Calls Tryd.prog 9 #[] w fun e w' => e = .returned (.bool true) ∧ Below w.heap.size w w' := by
  have HT := Lib.hid hT
  clear hT
  go_enter Tryd.func9, Tryd.ntmps9
  go_wp2_with (fail)
  have c1 := take_calls (some ⟨w.heap.size, 0, none⟩) [5, 0] 2 70 3 (w.alloc (.cells #[.int .u64 5, .int .u64 0] 38)) (by decide) (by decide) (row_lit w [5, 0]) (wd_small (by decide)) (by decide) (HT.out.below (on_alloc2 w _))
  refine c1.mono ?_
  clear c1
  rintro e w1 ⟨G1, cg1, R1, cr1, rfl, hg1, hr1, _, hb⟩
  rw [e1.1, e1.2.1, e1.2.2]
  rw [e1.2.1] at hg1
  rw [e1.2.2] at hr1
  have B1 := Lib.hid ((on_alloc2 w _).trans (hb.mono (on_alloc2 w _).size))
  have G1H := Lib.hid hg1.cel
  have R1H := Lib.hid hr1
  clear hg1 hr1 hb
  go_wp2_with (fail)
  have c1 := take_calls (some ⟨w1.heap.size, 0, none⟩) [7] 1 3 1 (w1.alloc (.cells #[.int .u64 7] 38)) (by decide) (by decide) (row_lit w1 [7]) (wd_small (by decide)) (by decide) (HT.out.below (B1.out.alloc B1.out.size _))
  refine c1.mono ?_
  clear c1
  rintro e w2 ⟨G2, cg2, R2, cr2, rfl, _, _, _, hb⟩
  rw [e2.1, e2.2.1, e2.2.2]
  have D2 := Lib.hid ((on_alloc2 w1 _).trans (hb.mono (on_alloc2 w1 _).size))
  have B2 := Lib.hid (B1.out.trans (D2.out.mono B1.out.size))
  have G2H := Lib.hid (G1H.out.below D2.out)
  have R2H := Lib.hid (R1H.out.below D2.out)
  clear hb D2 G1H R1H
  go_wp2_with (fail)
  have hcl := cel_lit (w2.alloc (.cells #[.int .u64 7] 38)) [2, 1] 3
  rw [World.size_alloc] at hcl
  have c1 := drop_calls (some ⟨w2.heap.size, 0, none⟩) [7] 1 64 (some ⟨w2.heap.size + 1, 0, none⟩) [2, 1] 2 ((w2.alloc (.cells #[.int .u64 7] 38)).alloc (.cells #[.int .i64 2, .int .i64 1] 3)) (by decide) (by decide) ((row_lit w2 [7]).below (on_alloc2 _ _)) (wd_small (by decide)) (by decide) hcl (by decide) (fun ad e _ => by injection e with e; subst e; rw [World.size_alloc, World.size_alloc]; exact Nat.lt_succ_self _)
  refine c1.mono ?_
  clear c1 hcl
  rintro e w3 ⟨R3, cr3, rfl, hr3, _, hb⟩
  rw [e3.1, e3.2]
  rw [e3.2] at hr3
  have D3 := Lib.hid (((on_alloc2 w2 _).trans ((on_alloc2 _ _).mono (on_alloc2 w2 _).size)).trans (hb.mono ((on_alloc2 w2 _).trans ((on_alloc2 _ _).mono (on_alloc2 w2 _).size)).size))
  have B3 := Lib.hid (B2.out.trans (D3.out.mono B2.out.size))
  have G3H := Lib.hid (G2H.out.below D3.out)
  have R3H := Lib.hid (R2H.out.below D3.out)
  have X3H := Lib.hid hr3
  clear hr3 hb D3 G2H R2H
  go_wp2_with (fail)
  have hcl := cel_lit (w3.alloc (.cells #[.int .u64 7] 38)) [2, 2] 3
  rw [World.size_alloc] at hcl
  have c1 := drop_calls (some ⟨w3.heap.size, 0, none⟩) [7] 1 64 (some ⟨w3.heap.size + 1, 0, none⟩) [2, 2] 2 ((w3.alloc (.cells #[.int .u64 7] 38)).alloc (.cells #[.int .i64 2, .int .i64 2] 3)) (by decide) (by decide) ((row_lit w3 [7]).below (on_alloc2 _ _)) (wd_small (by decide)) (by decide) hcl (by decide) (fun ad e _ => by injection e with e; subst e; rw [World.size_alloc, World.size_alloc]; exact Nat.lt_succ_self _)
  refine c1.mono ?_
  clear c1 hcl
  rintro e w4 ⟨R4, cr4, rfl, hr4, _, hb⟩
  rw [e4.1, e4.2]
  rw [e4.2] at hr4
  have D4 := Lib.hid (((on_alloc2 w3 _).trans ((on_alloc2 _ _).mono (on_alloc2 w3 _).size)).trans (hb.mono ((on_alloc2 w3 _).trans ((on_alloc2 _ _).mono (on_alloc2 w3 _).size)).size))
  have B4 := Lib.hid (B3.out.trans (D4.out.mono B3.out.size))
  have G4H := Lib.hid (G3H.out.below D4.out)
  have R4H := Lib.hid (R3H.out.below D4.out)
  have X4H := Lib.hid (X3H.out.below D4.out)
  clear hr4 hb D4 G3H R3H X3H
  go_wp2_with (fail)
  have c1 := free_calls (some ⟨w4.heap.size, 0, none⟩) [7] 1 10 (w4.alloc (.cells #[.int .u64 7] 38)) (by decide) (by decide) (row_lit w4 [7]) (wd_small (by decide)) (by decide)
  rw [e5.1, e5.2] at c1
  refine c1.mono ?_
  clear c1
  rintro e w' ⟨rfl, rfl⟩
  have B5 := Lib.hid (B4.out.alloc B4.out.size (.cells #[.int .u64 7] 38))
  have G5H := Lib.hid (G4H.out.below (on_alloc2 w4 (.cells #[.int .u64 7] 38)))
  have R5H := Lib.hid (R4H.out.below (on_alloc2 w4 (.cells #[.int .u64 7] 38)))
  have X5H := Lib.hid (X4H.out.below (on_alloc2 w4 (.cells #[.int .u64 7] 38)))
  clear G4H R4H X4H
  generalize w4.alloc (.cells #[.int .u64 7] 38) = w5 at *
  go_wp2_with (fail)
  have c1 := isame_calls G1 (some ⟨w5.heap.size, 0, none⟩) [2, 4, 5] cg1 3 (w5.alloc (.cells #[.int .i64 2, .int .i64 4, .int .i64 5] 3)) (G5H.out.below (on_alloc2 w5 _)) (cel_lit w5 [2, 4, 5] 3) (by decide)
  refine c1.mono ?_
  clear c1
  rintro e w' ⟨rfl, q, rfl⟩
  have D6 := Lib.hid (below_drewN (on_alloc2 w5 (.cells #[.int .i64 2, .int .i64 4, .int .i64 5] 3)) q)
  have B6 := Lib.hid (B5.out.trans (D6.out.mono B5.out.size))
  have R6H := Lib.hid (R5H.out.below D6.out)
  have X6H := Lib.hid (X5H.out.below D6.out)
  clear D6 G5H R5H X5H
  generalize (w5.alloc (.cells #[.int .i64 2, .int .i64 4, .int .i64 5] 3)).drewN q = w6 at *
  go_wp2_with (fail)
  have c1 := same_calls R1 (some ⟨w6.heap.size, 0, none⟩) [31, 0] cr1 2 (w6.alloc (.cells #[.int .u64 31, .int .u64 0] 38)) (R6H.out.below (on_alloc2 w6 _)) (row_lit w6 [31, 0]) (by decide)
  refine c1.mono ?_
  clear c1
  rintro e w' ⟨rfl, q, rfl⟩
  have D7 := Lib.hid (below_drewN (on_alloc2 w6 (.cells #[.int .u64 31, .int .u64 0] 38)) q)
  have B7 := Lib.hid (B6.out.trans (D7.out.mono B6.out.size))
  have X7H := Lib.hid (X6H.out.below D7.out)
  clear D7 R6H X6H
  generalize (w6.alloc (.cells #[.int .u64 31, .int .u64 0] 38)).drewN q = w7 at *
  go_wp2_with (fail)
  have c1 := same_calls R3 (some ⟨w7.heap.size, 0, none⟩) [4] cr3 1 (w7.alloc (.cells #[.int .u64 4] 38)) (X7H.out.below (on_alloc2 w7 _)) (row_lit w7 [4]) (by decide)
  refine c1.mono ?_
  clear c1
  rintro e w' ⟨rfl, q, rfl⟩
  have B8 := Lib.hid (below_drewN (B7.out.alloc B7.out.size (.cells #[.int .u64 4] 38)) q)
  clear X7H
  generalize (w7.alloc (.cells #[.int .u64 4] 38)).drewN q = w8 at *
  go_wp2_with (fail)
  have hrl := row_lit (w8.alloc (.cells #[.int .u64 1, .int .u64 2, .int .u64 3] 38)) [1, 5, 4, 6]
  rw [World.size_alloc] at hrl
  have c1 := turned_calls (some ⟨w8.heap.size, 0, none⟩) (some ⟨w8.heap.size + 1, 0, none⟩) [1, 2, 3] [1, 5, 4, 6] 3 4 ((w8.alloc (.cells #[.int .u64 1, .int .u64 2, .int .u64 3] 38)).alloc (.cells #[.int .u64 1, .int .u64 5, .int .u64 4, .int .u64 6] 38)) ((row_lit w8 [1, 2, 3]).below (on_alloc2 _ _)) hrl (by decide) (by decide)
  refine c1.mono ?_
  clear c1 hrl
  rintro e w9 ⟨A9, c9, rfl, hi, hb⟩
  rw [e6]
  rw [e6] at hi
  have B9 := Lib.hid (((B8.out.alloc B8.out.size (.cells #[.int .u64 1, .int .u64 2, .int .u64 3] 38)).alloc (Nat.le_trans B8.out.size (on_alloc2 w8 _).size) (.cells #[.int .u64 1, .int .u64 5, .int .u64 4, .int .u64 6] 38)).trans (hb.mono (((B8.out.alloc B8.out.size (.cells #[.int .u64 1, .int .u64 2, .int .u64 3] 38)).alloc (Nat.le_trans B8.out.size (on_alloc2 w8 _).size) (.cells #[.int .u64 1, .int .u64 5, .int .u64 4, .int .u64 6] 38)).size)))
  have I9 := Lib.hid hi.cel
  clear hi hb
  go_wp2_with (fail)
  have c1 := isame_calls A9 (some ⟨w9.heap.size, 0, none⟩) [1, 2] c9 2 (w9.alloc (.cells #[.int .i64 1, .int .i64 2] 3)) (I9.out.below (on_alloc2 w9 _)) (cel_lit w9 [1, 2] 3) (by decide)
  refine c1.mono ?_
  clear c1
  rintro e w' ⟨rfl, q, rfl⟩
  go_wp2_with (fail)
  go_ret
  exact ⟨rfl, below_drewN (B9.out.alloc B9.out.size _) q⟩
end Go.Proofs.YtaafchcpnceddaaDoor
