/- What Encode and Decode hand back. -/
import Derived.Test.YtgedahjifbopcaaDoorSup4
import Derived.RegionTactic
import Derived.BigRegion
namespace Go.Proofs.YtgedahjifbopcaaDoor
open Go.RowKit SumMath WordMath
theorem check_calls (A : Option Addr) (l : List Nat) (c : Nat) (w : World) (hr : Row w A l) (hl : Wd l) (hcap : l.length ≤ c) (hT : TabAt w) :
    Calls Tryd.prog 22 #[.slice A l.length c] w fun e w' => e = .returned (errV (badAt l)) ∧ Below w.heap.size w w' := by
  by_cases h8 : l.length = 8
  · have h := check_eight A l c w hr hl h8 (by omega) hT
    rw [← h8] at h
    exact h
  · exact check_len A l c w h8
/-- It hands back a row of its own, and no error. -/
def GivesOk (l : List Nat) (w : World) (e : Ending) (w' : World) : Prop := ∃ A c, e = .returned (.tuple #[.slice A l.length c, .int .i64 0]) ∧ Row w' A l ∧ Fresh w.heap.size A ∧ Below w.heap.size w w' ∧ l.length ≤ c
/-- The row is a block of its own. -/
def GivesOwnOk (l : List Nat) (w : World) (e : Ending) (w' : World) : Prop := ∃ A c, e = .returned (.tuple #[.slice A l.length c, .int .i64 0]) ∧ Row w' A l ∧ Fresh w.heap.size A ∧ Below w.heap.size w w' ∧ l.length ≤ c ∧ ∃ g, A = some ⟨g, 0, none⟩ ∧ Blk 42 w' g l
theorem gok_fits {P I B : Nat} {hi : Bool} (h : GOK P I B) : Fits P I B (hN hi) := by
  obtain ⟨⟨h1, h2⟩, ⟨h3, h4⟩, ⟨h5, h6⟩⟩ := h
  exact ⟨by omega, by omega, by omega, by cases hi <;> decide⟩
set_option maxRecDepth 100000 in
theorem encode_own (P I B : Nat) (hi : Bool) (w : World) (hg : GOK P I B) (hT : TabAt w) :
    Calls Tryd.prog 7 #[gv P I B, .bool hi] w (GivesOwnOk (superL P I B (hN hi)) w) := by
  have HT := Lib.hid hT
  have HG := Lib.hid hg
  clear hT hg
  go_enter Tryd.func7, Tryd.ntmps7
  go_wp2_with (fail)
  refine (check_ok P I B _ HG.out).mono ?_
  rintro e w1 ⟨rfl, hb1⟩
  have bw1 := below_alloc hb1
  obtain ⟨g0, g1, g2⟩ := three_cells (alloc_later hb1)
  have hlt : w.heap.size < w1.heap.size := lt_of_cells (alloc_later hb1)
  have hC := compose_own P I B hi w1 (gok_fits HG.out) (HT.out.below bw1)
  clear hb1
  go_wp2_with (fail)
  refine hC.mono ?_
  rintro e w2 ⟨A2, c2, rfl, hr2, hf2, hb2, hc2, ho2⟩
  clear hC
  go_wp2_with (fail)
  go_ret2
  exact ⟨A2, c2, rfl, hr2, hf2.mono bw1.size, bw1.trans (hb2.mono bw1.size), hc2, ho2⟩
theorem encode_ok (P I B : Nat) (hi : Bool) (w : World) (hg : GOK P I B) (hT : TabAt w) :
    Calls Tryd.prog 7 #[gv P I B, .bool hi] w (GivesOk (superL P I B (hN hi)) w) :=
  (encode_own P I B hi w hg hT).mono fun _ _ ⟨A', c', h1, h2, h3, h4, h5, _⟩ => ⟨A', c', h1, h2, h3, h4, h5⟩
set_option maxRecDepth 100000 in
theorem encode_bad (P I B : Int) (hi : Bool) (w : World) (hg : ¬ GOK P I B) :
    Calls Tryd.prog 7 #[gv P I B, .bool hi] w fun e w' => e = .returned (.tuple #[.slice none 0 0, .int .i64 2]) ∧ Below w.heap.size w w' := by
  have HG := Lib.hid hg
  clear hg
  go_enter Tryd.func7, Tryd.ntmps7
  go_wp2_with (fail)
  refine (check_bad P I B _ HG.out).mono ?_
  rintro e w1 ⟨rfl, hb1⟩
  go_wp2_with (fail)
  go_ret2
  exact ⟨rfl, below_alloc hb1⟩
set_option maxRecDepth 100000 in
set_option maxHeartbeats 1000000 in
theorem decode_bad (A : Option Addr) (l : List Nat) (c : Nat) (w : World) (k : Nat) (hbad : badAt l = some k) (hr : Row w A l) (hl : Wd l) (hcap : l.length ≤ c) (hT : TabAt w) (hE : ErrAt w) :
    Calls Tryd.prog 14 #[.slice A l.length c] w fun e w' => e = .returned (.tuple #[gv 0 0 0, .bool false, errV (some k)]) ∧ Below w.heap.size w w' := by
  have hon : On w ((w.alloc (.cells #[.int .i64 0, .int .i64 0, .int .i64 0] 23)).alloc (.cells #[.int .i64 0] 54)) := ((Below.refl _ _).alloc (Nat.le_refl _) _).alloc (by simp) _
  have hC := check_calls A l c _ (hr.below hon) hl hcap (hT.below hon)
  rw [hbad] at hC
  have HE := Lib.hid (hE.below hon)
  have HC := Lib.hid hC
  have hm : ((w.alloc (.cells #[.int .i64 0, .int .i64 0, .int .i64 0] 23)).alloc (.cells #[.int .i64 0] 54)).heap[w.heap.size + 1]? = some (.cells #[.int .i64 0] 54) := by
    have := heap_alloc_new (w.alloc (.cells #[.int .i64 0, .int .i64 0, .int .i64 0] 23)) (.cells #[.int .i64 0] 54)
    rwa [World.size_alloc] at this
  have hg : ((w.alloc (.cells #[.int .i64 0, .int .i64 0, .int .i64 0] 23)).alloc (.cells #[.int .i64 0] 54)).heap[w.heap.size]? = some (.cells #[.int .i64 0, .int .i64 0, .int .i64 0] 23) :=
    (Below.heap_alloc _ _ _ (by simp)).trans (heap_alloc_new w _)
  have hm := Lib.hid hm
  have hg := Lib.hid hg
  have hon := Lib.hid hon
  clear hC hbad hr hT hE
  go_enter Tryd.func14, Tryd.ntmps14
  go_wp2_with (fail)
  refine HC.out.mono ?_
  rintro e w1 ⟨rfl, hb1⟩
  have hm1 := (hb1.block (w.heap.size + 1) (by simp)).trans hm.out
  have hg1 := (hb1.block w.heap.size (by simp; omega)).trans hg.out
  have hE1 := HE.out.below hb1
  have bw1 := Below.trans hon.out (hb1.mono (Below.size hon.out))
  unfold errV
  clear hb1 HE hm hg hon HC
  have hA := as_M (.int .i64 (k : Nat)) (.int .i64 0) 54 (w.heap.size + 1) w1 hE1 hm1 (by intro v hv; simp at hv; subst hv; rfl)
  go_wp2_with (fail)
  refine hA.mono ?_
  clear hA
  rintro e w2 ⟨rfl, hb2, hm2⟩
  have hg2 := (hb2.block w.heap.size (by omega)).trans hg1
  have bw2 := bw1.trans (hb2.mono (by omega))
  have m0 := one_cell hm2
  obtain ⟨g0, g1, g2⟩ := three_cells hg2
  have f0 := one_frozen hg2 0
  have f1 := one_frozen hg2 1
  have f2 := one_frozen hg2 2
  have hlt := lt_of_cells hg2
  clear hb2 hm1 hg1 hE1 hm2 hg2 bw1
  go_wp2_with (fail)
  go_region
  all_goals
    go_wp2_with (fail)
    exact bodyPost_ret (v := .tuple #[gv 0 0 0, .bool false, .iface 54 (.agg #[.int .i64 (k : Nat)])]) (by simp [results, Tryd.results14, go_sem, g0, g1, g2]) rfl ⟨rfl, (((bw2.setCell (Nat.le_refl _) _).setCell (Nat.le_refl _) _).setCell (Nat.le_refl _) _).drew⟩
set_option maxRecDepth 100000 in
set_option maxHeartbeats 1000000 in
theorem decode_good (A : Option Addr) (l : List Nat) (c : Nat) (w : World) (hbad : badAt l = none) (hr : Row w A l) (hl : Wd l) (hcap : l.length ≤ c) (hT : TabAt w) :
    Calls Tryd.prog 14 #[.slice A l.length c] w fun e w' => e = .returned (.tuple #[gv (fP (l.getD 1 0) : Nat) (fI (l.getD 1 0) : Nat) (fB (l.getD 1 0) : Nat), .bool (hB (l.getD 1 0)), .nilIface]) ∧ Below w.heap.size w w' := by
  have h8 := (good_eq hbad).1.len
  have hon : On w ((w.alloc (.cells #[.int .i64 0, .int .i64 0, .int .i64 0] 23)).alloc (.cells #[.int .i64 0] 54)) := ((Below.refl _ _).alloc (Nat.le_refl _) _).alloc (by simp) _
  have hC := check_calls A l c _ (hr.below hon) hl hcap (hT.below hon)
  rw [hbad, h8] at hC
  obtain ⟨b, off, sp, rfl, hbl, _, hc1⟩ := hr.eight h8
  have hl1 := hl 1
  generalize l.getD 1 0 = f at *
  have HC := Lib.hid hC
  have hc1 := Lib.hid hc1
  have hg : ((w.alloc (.cells #[.int .i64 0, .int .i64 0, .int .i64 0] 23)).alloc (.cells #[.int .i64 0] 54)).heap[w.heap.size]? = some (.cells #[.int .i64 0, .int .i64 0, .int .i64 0] 23) :=
    (Below.heap_alloc _ _ _ (by simp)).trans (heap_alloc_new w _)
  have hg := Lib.hid hg
  have hon := Lib.hid hon
  clear hC hbad hr hT hl
  rw [h8]
  clear h8
  go_enter Tryd.func14, Tryd.ntmps14
  go_wp2_with (fail)
  refine HC.out.mono ?_
  rintro e w1 ⟨rfl, hb1⟩
  have bw1 := Below.trans hon.out (hb1.mono (Below.size hon.out))
  have hg1 := (hb1.block w.heap.size (by simp; omega)).trans hg.out
  unfold errV
  clear hb1 hon HC hg
  go_wp2_with (fail)
  refine (as_nil _ _).mono ?_
  rintro e w2 ⟨rfl, rfl⟩
  have d1 := (bw1.cell (p := ⟨b, off + 1, none⟩) hbl).trans hc1.out
  have hg1 := Lib.hid hg1
  go_wp2_with (fail)
  refine (specified_calls f _ hl1).mono ?_
  rintro e w3 ⟨rfl, hb3⟩
  have hg3 := (hb3.block w.heap.size (lt_of_cells hg1.out)).trans hg1.out
  have bw3 := bw1.trans (hb3.mono bw1.size)
  obtain ⟨g0, g1, g2⟩ := three_cells hg3
  have f0 := one_frozen hg3 0
  have f1 := one_frozen hg3 1
  have f2 := one_frozen hg3 2
  have hlt := lt_of_cells hg3
  have q6 := Lib.hid (three_set2 (three_set1 (three_set0 (three_set2 (three_set1 (three_set0 hg3 (.int .i64 (fP f : Nat))) (.int .i64 (fI f : Nat))) (.int .i64 (fB f : Nat))) (.int .i64 (fP f : Nat))) (.int .i64 (fI f : Nat))) (.int .i64 (fB f : Nat)))
  have hb6 := Lib.hid ((((((bw3.setCell (p := ⟨w.heap.size, 0, none⟩) (Nat.le_refl _) (.int .i64 (fP f : Nat))).setCell (p := ⟨w.heap.size, 1, none⟩) (Nat.le_refl _) (.int .i64 (fI f : Nat))).setCell (p := ⟨w.heap.size, 2, none⟩) (Nat.le_refl _) (.int .i64 (fB f : Nat))).setCell (p := ⟨w.heap.size, 0, none⟩) (Nat.le_refl _) (.int .i64 (fP f : Nat))).setCell (p := ⟨w.heap.size, 1, none⟩) (Nat.le_refl _) (.int .i64 (fI f : Nat))).setCell (p := ⟨w.heap.size, 2, none⟩) (Nat.le_refl _) (.int .i64 (fB f : Nat)))
  clear hb3 hg1 hg3 bw1 d1 hc1
  go_wp2_with (fail)
  generalize ((((((w3.setCell ⟨w.heap.size, 0, none⟩ (.int .i64 (fP f : Nat))).setCell ⟨w.heap.size, 1, none⟩ (.int .i64 (fI f : Nat))).setCell ⟨w.heap.size, 2, none⟩ (.int .i64 (fB f : Nat))).setCell ⟨w.heap.size, 0, none⟩ (.int .i64 (fP f : Nat))).setCell ⟨w.heap.size, 1, none⟩ (.int .i64 (fI f : Nat))).setCell ⟨w.heap.size, 2, none⟩ (.int .i64 (fB f : Nat))) = W6 at *
  obtain ⟨r0, r1, r2⟩ := three_cells q6.out
  have hlt6 := lt_of_cells q6.out
  exact bodyPost_ret (v := .tuple #[gv (fP f : Nat) (fI f : Nat) (fB f : Nat), .bool (hB f), .nilIface]) (by simp [results, Tryd.results14, go_sem, r0, r1, r2]) rfl ⟨rfl, hb6.out⟩
end Go.Proofs.YtgedahjifbopcaaDoor
