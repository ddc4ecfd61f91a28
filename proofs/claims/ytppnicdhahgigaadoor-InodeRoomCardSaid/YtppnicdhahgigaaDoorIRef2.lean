/- The document's own Decode. -/
import Derived.Test.YtppnicdhahgigaaDoorIno8
import Derived.Test.YtppnicdhahgigaaDoorIRef
namespace Go.Proofs.YtppnicdhahgigaaDoor
open Go.RowKit WordMath SumMath
/-- A block of a fault. -/
def Fb (w : World) (b : Nat) (k n : Int) : Prop := w.heap[b]? = some (.cells #[.int .i64 k, .int .i64 n] 51 (0, 0))
section
variable {w w' : World} {b : Nat} {k n : Int}
theorem Fb.lt (h : Fb w b k n) : b < w.heap.size := lt_of_cells h
theorem Fb.below {q : Nat} (h : Fb w b k n) (hb : Below q w w') (hk : b < q) : Fb w' b k n := (hb.block b hk).trans h
theorem Fb.frozen (h : Fb w b k n) (j : Nat) : w.frozen? ⟨b, j, none⟩ = false := by
  unfold Fb at h
  simp [World.frozen?, h]
theorem Fb.cells (h : Fb w b k n) : w.cell? ⟨b, 0, none⟩ = some (.int .i64 k) ∧ w.cell? ⟨b, 1, none⟩ = some (.int .i64 n) := by
  unfold Fb at h
  simp [World.cell?, h]
theorem Fb.set0 (h : Fb w b k n) (m : Int) : Fb (w.setCell ⟨b, 0, none⟩ (.int .i64 m)) b m n := by
  unfold Fb at h ⊢
  simp [World.setCell, Array.getElem?_modify, h]
theorem Fb.set1 (h : Fb w b k n) (m : Int) : Fb (w.setCell ⟨b, 1, none⟩ (.int .i64 m)) b k m := by
  unfold Fb at h ⊢
  simp [World.setCell, Array.getElem?_modify, h]
end
/-- A fault, as a value; of none: zeros. -/
def fV (o : Option (Nat × Int)) : Value := match o with
  | none => .agg #[.int .i64 0, .int .i64 0]
  | some (k, n) => .agg #[.int .i64 (k : Nat), .int .i64 n]
set_option maxRecDepth 100000 in
set_option maxHeartbeats 1000000 in
theorem rdec_geom (A : Option Addr) (n c : Nat) (P I B : Int) (w : World) (hg : ¬ GOK P I B) :
    Calls Tryd.prog 18 #[.slice A n c, gv P I B] w fun e w' => e = .returned (.tuple #[zI.v, fV (some (0, 2))]) ∧ Below w.heap.size w w' := by
  have HG := Lib.hid hg
  clear hg
  go_enter Tryd.func18, Tryd.ntmps18
  go_wp2_with (fail)
  refine (may_no P I B _ HG.out).mono ?_
  rintro e w1 ⟨rfl, hb1⟩
  have bw1 := Below.trans ((((Below.refl w.heap.size w).alloc (Nat.le_refl _) (.cells #[.int .i64 P, .int .i64 I, .int .i64 B] 27)).alloc (by simp) (.cells (Ino.c zI) 25)).alloc (by simp <;> omega) (.cells #[.int .i64 0, .int .i64 0] 51)) (hb1.mono (by simp <;> omega))
  have iz1 : Ib w1 (w.heap.size + 1) zI := by
    have h := Ib.new (w.alloc (.cells #[.int .i64 P, .int .i64 I, .int .i64 B] 27)) zI
    rw [World.size_alloc] at h
    exact (h.below (k := w.heap.size + 1 + 1) ((Below.refl _ _).alloc (by simp) (.cells #[.int .i64 0, .int .i64 0] 51)) (by omega)).below hb1 (by simp <;> omega)
  have if1 : Fb w1 (w.heap.size + 1 + 1) 0 0 := by
    have h := heap_alloc_new ((w.alloc (.cells #[.int .i64 P, .int .i64 I, .int .i64 B] 27)).alloc (.cells (Ino.c zI) 25)) (.cells #[.int .i64 0, .int .i64 0] 51)
    rw [World.size_alloc, World.size_alloc] at h
    exact Fb.below h hb1 (by simp <;> omega)
  have hg1 : w1.heap[w.heap.size]? = some (.cells #[.int .i64 P, .int .i64 I, .int .i64 B] 27 (0, 0)) := by
    have h := heap_alloc_new w (.cells #[.int .i64 P, .int .i64 I, .int .i64 B] 27)
    have h2 : Below (w.heap.size + 1) (w.alloc (.cells #[.int .i64 P, .int .i64 I, .int .i64 B] 27)) (((w.alloc (.cells #[.int .i64 P, .int .i64 I, .int .i64 B] 27)).alloc (.cells (Ino.c zI) 25)).alloc (.cells #[.int .i64 0, .int .i64 0] 51)) := ((Below.refl _ _).alloc (by simp) _).alloc (by simp) _
    exact (hb1.block w.heap.size (by simp <;> omega)).trans ((h2.block w.heap.size (by omega)).trans h)
  have hs1 := bw1.size
  clear hb1
  clear hg1
  obtain ⟨z0, z1, z2, z3, z4, z5, z6, z7, z8, z9, z10, z11, z12⟩ := iz1.cells
  have s0 := iz1.same 0 (.int .u8 0) rfl
  have s1 := iz1.same 1 (.int .i64 0) rfl
  have s2 := iz1.same 2 (.int .u32 0) rfl
  have s3 := iz1.same 3 (.int .i64 0) rfl
  have s4 := iz1.same 4 (.int .i64 0) rfl
  have s5 := iz1.same 5 (.int .i64 0) rfl
  have s6 := iz1.same 6 (.int .i64 0) rfl
  have s7 := iz1.same 7 (.int .i64 0) rfl
  have s8 := iz1.same 8 (.int .i64 0) rfl
  have s9 := iz1.same 9 (.int .i64 0) rfl
  have s10 := iz1.same 10 (.int .i64 0) rfl
  have s11 := iz1.same 11 (.int .i64 0) rfl
  have s12 := iz1.same 12 (.int .i64 0) rfl
  have fz := iz1.frozen
  have hlz := iz1.lt
  obtain ⟨y0, y1⟩ := if1.cells
  have ff := if1.frozen
  have hlf := if1.lt
  go_wp2_with (fail)
  have q1 : Fb ((w1.setCell ⟨w.heap.size + 1 + 1, 0, none⟩ (.int .i64 (0))).setCell ⟨w.heap.size + 1 + 1, 1, none⟩ (.int .i64 2)) (w.heap.size + 1 + 1) (0) 2 := (if1.set0 (0)).set1 2
  have q2 : Ib ((w1.setCell ⟨w.heap.size + 1 + 1, 0, none⟩ (.int .i64 (0))).setCell ⟨w.heap.size + 1 + 1, 1, none⟩ (.int .i64 2)) (w.heap.size + 1) zI := iz1.below (((Below.refl (w.heap.size + 1 + 1) w1).setCell (Nat.le_refl _) _).setCell (Nat.le_refl _) _) (by omega)
  have q3 : Below w.heap.size w ((w1.setCell ⟨w.heap.size + 1 + 1, 0, none⟩ (.int .i64 (0))).setCell ⟨w.heap.size + 1 + 1, 1, none⟩ (.int .i64 2)) := (bw1.setCell (show w.heap.size ≤ w.heap.size + 1 + 1 by omega) _).setCell (show w.heap.size ≤ w.heap.size + 1 + 1 by omega) _
  clear z0 z1 z2 z3 z4 z5 z6 z7 z8 z9 z10 z11 z12 s0 s1 s2 s3 s4 s5 s6 s7 s8 s9 s10 s11 s12 fz hlz y0 y1 ff hlf
  clear iz1 if1 bw1
  generalize ((w1.setCell ⟨w.heap.size + 1 + 1, 0, none⟩ (.int .i64 (0))).setCell ⟨w.heap.size + 1 + 1, 1, none⟩ (.int .i64 2)) = W8 at *
  obtain ⟨z0, z1, z2, z3, z4, z5, z6, z7, z8, z9, z10, z11, z12⟩ := q2.cells
  obtain ⟨y0, y1⟩ := q1.cells
  exact bodyPost_ret (v := .tuple #[zI.v, fV (some (0, 2))]) (by simp [results, Tryd.results18, go_sem, fV, z0, z1, z2, z3, z4, z5, z6, z7, z8, z9, z10, z11, z12, y0, y1]) rfl ⟨rfl, q3⟩
set_option maxRecDepth 100000 in
set_option maxHeartbeats 1000000 in
theorem rdec_len (A : Option Addr) (n c : Nat) (P I B : Int) (w : World) (hg : GOK P I B) (hn : n ≠ 8) :
    Calls Tryd.prog 18 #[.slice A n c, gv P I B] w fun e w' => e = .returned (.tuple #[zI.v, fV (some (0, 7))]) ∧ Below w.heap.size w w' := by
  have HG := Lib.hid hg
  have hne : ((n : Int) == 8) = false := by rw [beq_eq_false_iff_ne]; omega
  clear hg hn
  go_enter Tryd.func18, Tryd.ntmps18
  go_wp2_with (fail)
  refine (may_yes P I B _ HG.out).mono ?_
  rintro e w1 ⟨rfl, hb1⟩
  have bw1 := Below.trans ((((Below.refl w.heap.size w).alloc (Nat.le_refl _) (.cells #[.int .i64 P, .int .i64 I, .int .i64 B] 27)).alloc (by simp) (.cells (Ino.c zI) 25)).alloc (by simp <;> omega) (.cells #[.int .i64 0, .int .i64 0] 51)) (hb1.mono (by simp <;> omega))
  have iz1 : Ib w1 (w.heap.size + 1) zI := by
    have h := Ib.new (w.alloc (.cells #[.int .i64 P, .int .i64 I, .int .i64 B] 27)) zI
    rw [World.size_alloc] at h
    exact (h.below (k := w.heap.size + 1 + 1) ((Below.refl _ _).alloc (by simp) (.cells #[.int .i64 0, .int .i64 0] 51)) (by omega)).below hb1 (by simp <;> omega)
  have if1 : Fb w1 (w.heap.size + 1 + 1) 0 0 := by
    have h := heap_alloc_new ((w.alloc (.cells #[.int .i64 P, .int .i64 I, .int .i64 B] 27)).alloc (.cells (Ino.c zI) 25)) (.cells #[.int .i64 0, .int .i64 0] 51)
    rw [World.size_alloc, World.size_alloc] at h
    exact Fb.below h hb1 (by simp <;> omega)
  have hg1 : w1.heap[w.heap.size]? = some (.cells #[.int .i64 P, .int .i64 I, .int .i64 B] 27 (0, 0)) := by
    have h := heap_alloc_new w (.cells #[.int .i64 P, .int .i64 I, .int .i64 B] 27)
    have h2 : Below (w.heap.size + 1) (w.alloc (.cells #[.int .i64 P, .int .i64 I, .int .i64 B] 27)) (((w.alloc (.cells #[.int .i64 P, .int .i64 I, .int .i64 B] 27)).alloc (.cells (Ino.c zI) 25)).alloc (.cells #[.int .i64 0, .int .i64 0] 51)) := ((Below.refl _ _).alloc (by simp) _).alloc (by simp) _
    exact (hb1.block w.heap.size (by simp <;> omega)).trans ((h2.block w.heap.size (by omega)).trans h)
  have hs1 := bw1.size
  clear hb1
  clear hg1
  obtain ⟨z0, z1, z2, z3, z4, z5, z6, z7, z8, z9, z10, z11, z12⟩ := iz1.cells
  have s0 := iz1.same 0 (.int .u8 0) rfl
  have s1 := iz1.same 1 (.int .i64 0) rfl
  have s2 := iz1.same 2 (.int .u32 0) rfl
  have s3 := iz1.same 3 (.int .i64 0) rfl
  have s4 := iz1.same 4 (.int .i64 0) rfl
  have s5 := iz1.same 5 (.int .i64 0) rfl
  have s6 := iz1.same 6 (.int .i64 0) rfl
  have s7 := iz1.same 7 (.int .i64 0) rfl
  have s8 := iz1.same 8 (.int .i64 0) rfl
  have s9 := iz1.same 9 (.int .i64 0) rfl
  have s10 := iz1.same 10 (.int .i64 0) rfl
  have s11 := iz1.same 11 (.int .i64 0) rfl
  have s12 := iz1.same 12 (.int .i64 0) rfl
  have fz := iz1.frozen
  have hlz := iz1.lt
  obtain ⟨y0, y1⟩ := if1.cells
  have ff := if1.frozen
  have hlf := if1.lt
  go_wp2_with (fail)
  have q1 : Fb ((w1.setCell ⟨w.heap.size + 1 + 1, 0, none⟩ (.int .i64 (0))).setCell ⟨w.heap.size + 1 + 1, 1, none⟩ (.int .i64 7)) (w.heap.size + 1 + 1) (0) 7 := (if1.set0 (0)).set1 7
  have q2 : Ib ((w1.setCell ⟨w.heap.size + 1 + 1, 0, none⟩ (.int .i64 (0))).setCell ⟨w.heap.size + 1 + 1, 1, none⟩ (.int .i64 7)) (w.heap.size + 1) zI := iz1.below (((Below.refl (w.heap.size + 1 + 1) w1).setCell (Nat.le_refl _) _).setCell (Nat.le_refl _) _) (by omega)
  have q3 : Below w.heap.size w ((w1.setCell ⟨w.heap.size + 1 + 1, 0, none⟩ (.int .i64 (0))).setCell ⟨w.heap.size + 1 + 1, 1, none⟩ (.int .i64 7)) := (bw1.setCell (show w.heap.size ≤ w.heap.size + 1 + 1 by omega) _).setCell (show w.heap.size ≤ w.heap.size + 1 + 1 by omega) _
  clear z0 z1 z2 z3 z4 z5 z6 z7 z8 z9 z10 z11 z12 s0 s1 s2 s3 s4 s5 s6 s7 s8 s9 s10 s11 s12 fz hlz y0 y1 ff hlf
  clear iz1 if1 bw1
  generalize ((w1.setCell ⟨w.heap.size + 1 + 1, 0, none⟩ (.int .i64 (0))).setCell ⟨w.heap.size + 1 + 1, 1, none⟩ (.int .i64 7)) = W8 at *
  obtain ⟨z0, z1, z2, z3, z4, z5, z6, z7, z8, z9, z10, z11, z12⟩ := q2.cells
  obtain ⟨y0, y1⟩ := q1.cells
  exact bodyPost_ret (v := .tuple #[zI.v, fV (some (0, 7))]) (by simp [results, Tryd.results18, go_sem, fV, z0, z1, z2, z3, z4, z5, z6, z7, z8, z9, z10, z11, z12, y0, y1]) rfl ⟨rfl, q3⟩
theorem ropen8 (A : Option Addr) (l : List Nat) (c : Nat) (w : World) (h8 : l.length = 8) (hr : Row w A l) (hl : Wd l) (hcap : 8 ≤ c) :
    Calls Tryd.prog 32 #[.slice A 8 c] w fun e w' => ∃ v, e = .returned (.tuple #[v, .bool (openB l)]) ∧ Below w.heap.size w w' := by
  have h := ropen_calls A l c w hr hl (by omega) (by omega)
  rw [h8] at h
  exact h.mono fun _ _ ⟨A', c', h1, _, _, h4, _⟩ => ⟨_, h1, h4⟩
set_option maxRecDepth 100000 in
set_option maxHeartbeats 1000000 in
theorem rdec_seal (A : Option Addr) (l : List Nat) (c : Nat) (P I B : Int) (w : World) (hg : GOK P I B) (h8 : l.length = 8) (hr : Row w A l) (hl : Wd l) (hcap : 8 ≤ c) (ho : openB l = false) :
    Calls Tryd.prog 18 #[.slice A 8 c, gv P I B] w fun e w' => e = .returned (.tuple #[zI.v, fV (some (7, 7))]) ∧ Below w.heap.size w w' := by
  have HG := Lib.hid hg
  have HR := Lib.hid hr
  have HL := Lib.hid hl
  clear hg hr hl
  have hob := Lib.hid ho
  clear ho
  go_enter Tryd.func18, Tryd.ntmps18
  go_wp2_with (fail)
  refine (may_yes P I B _ HG.out).mono ?_
  rintro e w1 ⟨rfl, hb1⟩
  have bw1 := Below.trans ((((Below.refl w.heap.size w).alloc (Nat.le_refl _) (.cells #[.int .i64 P, .int .i64 I, .int .i64 B] 27)).alloc (by simp) (.cells (Ino.c zI) 25)).alloc (by simp <;> omega) (.cells #[.int .i64 0, .int .i64 0] 51)) (hb1.mono (by simp <;> omega))
  have iz1 : Ib w1 (w.heap.size + 1) zI := by
    have h := Ib.new (w.alloc (.cells #[.int .i64 P, .int .i64 I, .int .i64 B] 27)) zI
    rw [World.size_alloc] at h
    exact (h.below (k := w.heap.size + 1 + 1) ((Below.refl _ _).alloc (by simp) (.cells #[.int .i64 0, .int .i64 0] 51)) (by omega)).below hb1 (by simp <;> omega)
  have if1 : Fb w1 (w.heap.size + 1 + 1) 0 0 := by
    have h := heap_alloc_new ((w.alloc (.cells #[.int .i64 P, .int .i64 I, .int .i64 B] 27)).alloc (.cells (Ino.c zI) 25)) (.cells #[.int .i64 0, .int .i64 0] 51)
    rw [World.size_alloc, World.size_alloc] at h
    exact Fb.below h hb1 (by simp <;> omega)
  have hg1 : w1.heap[w.heap.size]? = some (.cells #[.int .i64 P, .int .i64 I, .int .i64 B] 27 (0, 0)) := by
    have h := heap_alloc_new w (.cells #[.int .i64 P, .int .i64 I, .int .i64 B] 27)
    have h2 : Below (w.heap.size + 1) (w.alloc (.cells #[.int .i64 P, .int .i64 I, .int .i64 B] 27)) (((w.alloc (.cells #[.int .i64 P, .int .i64 I, .int .i64 B] 27)).alloc (.cells (Ino.c zI) 25)).alloc (.cells #[.int .i64 0, .int .i64 0] 51)) := ((Below.refl _ _).alloc (by simp) _).alloc (by simp) _
    exact (hb1.block w.heap.size (by simp <;> omega)).trans ((h2.block w.heap.size (by omega)).trans h)
  have hs1 := bw1.size
  clear hb1
  have hO := Lib.hid (ropen8 A l c w1 h8 (HR.out.below bw1) HL.out hcap)
  go_wp2_with (fail)
  refine hO.out.mono ?_
  rintro e w2 ⟨vo, rfl, hb2⟩
  rw [hob.out]
  have bw2 := bw1.trans (hb2.mono hs1)
  have iz2 := iz1.below hb2 iz1.lt
  have if2 := if1.below hb2 if1.lt
  have hg2 := (hb2.block w.heap.size (lt_of_cells hg1)).trans hg1
  have hs2 := bw2.size
  clear hO iz1 if1 hg1 bw1 hs1
  clear hg2 hb2
  obtain ⟨z0, z1, z2, z3, z4, z5, z6, z7, z8, z9, z10, z11, z12⟩ := iz2.cells
  have s0 := iz2.same 0 (.int .u8 0) rfl
  have s1 := iz2.same 1 (.int .i64 0) rfl
  have s2 := iz2.same 2 (.int .u32 0) rfl
  have s3 := iz2.same 3 (.int .i64 0) rfl
  have s4 := iz2.same 4 (.int .i64 0) rfl
  have s5 := iz2.same 5 (.int .i64 0) rfl
  have s6 := iz2.same 6 (.int .i64 0) rfl
  have s7 := iz2.same 7 (.int .i64 0) rfl
  have s8 := iz2.same 8 (.int .i64 0) rfl
  have s9 := iz2.same 9 (.int .i64 0) rfl
  have s10 := iz2.same 10 (.int .i64 0) rfl
  have s11 := iz2.same 11 (.int .i64 0) rfl
  have s12 := iz2.same 12 (.int .i64 0) rfl
  have fz := iz2.frozen
  have hlz := iz2.lt
  obtain ⟨y0, y1⟩ := if2.cells
  have ff := if2.frozen
  have hlf := if2.lt
  go_wp2_with (fail)
  have q1 : Fb ((w2.setCell ⟨w.heap.size + 1 + 1, 0, none⟩ (.int .i64 (7))).setCell ⟨w.heap.size + 1 + 1, 1, none⟩ (.int .i64 7)) (w.heap.size + 1 + 1) (7) 7 := (if2.set0 (7)).set1 7
  have q2 : Ib ((w2.setCell ⟨w.heap.size + 1 + 1, 0, none⟩ (.int .i64 (7))).setCell ⟨w.heap.size + 1 + 1, 1, none⟩ (.int .i64 7)) (w.heap.size + 1) zI := iz2.below (((Below.refl (w.heap.size + 1 + 1) w2).setCell (Nat.le_refl _) _).setCell (Nat.le_refl _) _) (by omega)
  have q3 : Below w.heap.size w ((w2.setCell ⟨w.heap.size + 1 + 1, 0, none⟩ (.int .i64 (7))).setCell ⟨w.heap.size + 1 + 1, 1, none⟩ (.int .i64 7)) := (bw2.setCell (show w.heap.size ≤ w.heap.size + 1 + 1 by omega) _).setCell (show w.heap.size ≤ w.heap.size + 1 + 1 by omega) _
  clear z0 z1 z2 z3 z4 z5 z6 z7 z8 z9 z10 z11 z12 s0 s1 s2 s3 s4 s5 s6 s7 s8 s9 s10 s11 s12 fz hlz y0 y1 ff hlf
  clear iz2 if2 bw2
  generalize ((w2.setCell ⟨w.heap.size + 1 + 1, 0, none⟩ (.int .i64 (7))).setCell ⟨w.heap.size + 1 + 1, 1, none⟩ (.int .i64 7)) = W8 at *
  obtain ⟨z0, z1, z2, z3, z4, z5, z6, z7, z8, z9, z10, z11, z12⟩ := q2.cells
  obtain ⟨y0, y1⟩ := q1.cells
  exact bodyPost_ret (v := .tuple #[zI.v, fV (some (7, 7))]) (by simp [results, Tryd.results18, go_sem, fV, z0, z1, z2, z3, z4, z5, z6, z7, z8, z9, z10, z11, z12, y0, y1]) rfl ⟨rfl, q3⟩
set_option maxRecDepth 100000 in
set_option maxHeartbeats 1000000 in
theorem rdec_rest (A : Option Addr) (l : List Nat) (c : Nat) (P I B : Int) (w : World) (hg : GOK P I B) (h8 : l.length = 8) (hr : Row w A l) (hl : Wd l) (hcap : 8 ≤ c) (ho : openB l = true) :
    Calls Tryd.prog 18 #[.slice A 8 c, gv P I B] w fun e w' => e = .returned (.tuple #[(if fst7 (fitL l I B) = 7 then rdL l else zI).v, fV (if fst7 (fitL l I B) = 7 then none else some (fst7 (fitL l I B), 7))]) ∧ Below w.heap.size w w' := by
  obtain ⟨x, hx⟩ : ∃ x, x = (if fst7 (fitL l I B) = 7 then rdL l else zI) := ⟨_, rfl⟩
  obtain ⟨er, her⟩ : ∃ er, er = fV (if fst7 (fitL l I B) = 7 then none else some (fst7 (fitL l I B), 7)) := ⟨_, rfl⟩
  rw [← hx, ← her]
  have HXV := Lib.hid hx
  have HER := Lib.hid her
  clear hx her
  have HG := Lib.hid hg
  have HR := Lib.hid hr
  have HL := Lib.hid hl
  clear hg hr hl
  have hob := Lib.hid ho
  clear ho
  go_enter Tryd.func18, Tryd.ntmps18
  go_wp2_with (fail)
  refine (may_yes P I B _ HG.out).mono ?_
  rintro e w1 ⟨rfl, hb1⟩
  have bw1 := Below.trans ((((Below.refl w.heap.size w).alloc (Nat.le_refl _) (.cells #[.int .i64 P, .int .i64 I, .int .i64 B] 27)).alloc (by simp) (.cells (Ino.c zI) 25)).alloc (by simp <;> omega) (.cells #[.int .i64 0, .int .i64 0] 51)) (hb1.mono (by simp <;> omega))
  have iz1 : Ib w1 (w.heap.size + 1) zI := by
    have h := Ib.new (w.alloc (.cells #[.int .i64 P, .int .i64 I, .int .i64 B] 27)) zI
    rw [World.size_alloc] at h
    exact (h.below (k := w.heap.size + 1 + 1) ((Below.refl _ _).alloc (by simp) (.cells #[.int .i64 0, .int .i64 0] 51)) (by omega)).below hb1 (by simp <;> omega)
  have if1 : Fb w1 (w.heap.size + 1 + 1) 0 0 := by
    have h := heap_alloc_new ((w.alloc (.cells #[.int .i64 P, .int .i64 I, .int .i64 B] 27)).alloc (.cells (Ino.c zI) 25)) (.cells #[.int .i64 0, .int .i64 0] 51)
    rw [World.size_alloc, World.size_alloc] at h
    exact Fb.below h hb1 (by simp <;> omega)
  have hg1 : w1.heap[w.heap.size]? = some (.cells #[.int .i64 P, .int .i64 I, .int .i64 B] 27 (0, 0)) := by
    have h := heap_alloc_new w (.cells #[.int .i64 P, .int .i64 I, .int .i64 B] 27)
    have h2 : Below (w.heap.size + 1) (w.alloc (.cells #[.int .i64 P, .int .i64 I, .int .i64 B] 27)) (((w.alloc (.cells #[.int .i64 P, .int .i64 I, .int .i64 B] 27)).alloc (.cells (Ino.c zI) 25)).alloc (.cells #[.int .i64 0, .int .i64 0] 51)) := ((Below.refl _ _).alloc (by simp) _).alloc (by simp) _
    exact (hb1.block w.heap.size (by simp <;> omega)).trans ((h2.block w.heap.size (by omega)).trans h)
  have hs1 := bw1.size
  clear hb1
  have hO := Lib.hid (ropen8 A l c w1 h8 (HR.out.below bw1) HL.out hcap)
  go_wp2_with (fail)
  refine hO.out.mono ?_
  rintro e w2 ⟨vo, rfl, hb2⟩
  rw [hob.out]
  have bw2 := bw1.trans (hb2.mono hs1)
  have iz2 := iz1.below hb2 iz1.lt
  have if2 := if1.below hb2 if1.lt
  have hg2 := (hb2.block w.heap.size (lt_of_cells hg1)).trans hg1
  have hs2 := bw2.size
  clear hO iz1 if1 hg1 bw1 hs1
  clear hb2
  have hr2 := HR.out.below bw2
  obtain ⟨⟨b, off, sp⟩, rfl, hbl, hc⟩ := hr2 (by omega)
  have c0 := hc 0 (by omega)
  obtain rfl := spot_none c0
  have c0 : w2.cell? ⟨b, off, none⟩ = some (.int .u64 (l.getD 0 0 : Nat)) := c0
  have l0 := HL.out 0
  obtain ⟨v0, hv0⟩ : ∃ v0, v0 = l.getD 0 0 := ⟨_, rfl⟩
  obtain ⟨kk, hkk⟩ : ∃ kk, kk = l.getD 0 0 % 256 := ⟨_, rfl⟩
  have HKK : Hid (l.getD 0 0 % 256 = kk) := Lib.hid hkk.symm
  rw [← hv0] at c0 l0 hkk
  have ek : IntKind.u8.wrap ((v0 : Int) % 256) = ((kk : Nat) : Int) := by
    rw [show ((v0 : Int) % 256) = ((kk : Nat) : Int) by omega]
    exact wrap8 (by omega)
  have HV0 := Lib.hid hv0
  have hbw : b < w.heap.size := by
    have h := HR.out (by omega)
    obtain ⟨ad, e1, e2, _⟩ := h
    injection e1 with e1
    subst e1
    exact e2
  have HC : Hid (∀ k, k < 8 → w2.cell? ((⟨b, off, none⟩ : Addr).add k) = some (.int .u64 (l.getD k 0 : Nat))) := Lib.hid fun k hk => hc k (by omega)
  clear hc hr2 hob HG hv0 hkk
  have Iz2 := Lib.hid iz2
  have If2 := Lib.hid if2
  have Hg2 := Lib.hid hg2
  have Bw2 := Lib.hid bw2
  have L0 := Lib.hid l0
  clear iz2 if2 hg2 bw2 hs2 l0
  go_wp2_with (fail)
  clear c0 ek
  go_loopw [9] (fun i wr => ∃ k : Nat, i = .int .i64 k ∧ k ≤ 7 ∧ Hid (∀ j, j < k → fitL l I B j = true) ∧ Hid (Below w2.heap.size w2 wr)) (fun i _ => 7 - (intOf i).toNat)
  case atStart => exact ⟨0, rfl, by omega, Lib.hid fun j hj => absurd hj (by omega), Lib.hid (Below.refl _ _)⟩
  case round =>
    obtain ⟨k, rfl, hk, hall, hbr⟩ := hrel
    have hg3 := (hbr.out.block w.heap.size (lt_of_cells Hg2.out)).trans Hg2.out
    obtain ⟨g0, g1, g2⟩ := three_cells hg3
    have hlg := lt_of_cells hg3
    clear hg3
    by_cases h7 : k < 7
    · have hck := (hbr.out.cell (p := (⟨b, off, none⟩ : Addr).add k) (by rw [add_block]; exact hbl)).trans (HC.out k (by omega))
      have hF := Lib.hid (fits_calls b off none c k ((kk : Nat) : Int) (l.getD k 0) P I B wr h7 (Nat.lt_of_lt_of_le hbl hbr.out.size) hck (HL.out k))
      have e0 : fitV k ((kk : Nat) : Int) (l.getD k 0) I B = fitL l I B k := by rw [← HKK.out]; rfl
      rw [e0] at hF
      clear hck e0
      have h7i : (k : Int) < 7 := by omega
      go_wp2_with (fail)
      refine hF.out.mono ?_
      rintro e w4 ⟨rfl, hb4⟩
      clear g0 g1 g2 hlg hF
      cases hfk : fitL l I B k with
      | true =>
        go_wp2_with (fail)
        go_roundw
        case rel =>
          refine ⟨k + 1, by go_num, by omega, Lib.hid fun j hj => ?_, Lib.hid (hbr.out.trans (hb4.mono hbr.out.size))⟩
          by_cases h : j < k
          · exact hall.out j h
          · obtain rfl : j = k := by omega
            exact hfk
        case measure => simp [intOf]; omega
      | false =>
        have hr : fst7 (fitL l I B) = k := IsFirst.uniq (fst7_first _) ⟨hk, hall.out, fun _ => by rw [hfk]; simp⟩
        have ex := HXV.out
        have ee := HER.out
        rw [hr, if_neg (by omega)] at ex ee
        subst ex ee
        clear HXV HER
        have bb := hbr.out.trans (hb4.mono hbr.out.size)
        have iz4 := Iz2.out.below bb Iz2.out.lt
        have if4 := If2.out.below bb If2.out.lt
        have bw4 := Bw2.out.trans (bb.mono Bw2.out.size)
        clear hb4 bb hbr hall hfk hr
        obtain ⟨z0, z1, z2, z3, z4, z5, z6, z7, z8, z9, z10, z11, z12⟩ := iz4.cells
        have s0 := iz4.same 0 (.int .u8 0) rfl
        have s1 := iz4.same 1 (.int .i64 0) rfl
        have s2 := iz4.same 2 (.int .u32 0) rfl
        have s3 := iz4.same 3 (.int .i64 0) rfl
        have s4 := iz4.same 4 (.int .i64 0) rfl
        have s5 := iz4.same 5 (.int .i64 0) rfl
        have s6 := iz4.same 6 (.int .i64 0) rfl
        have s7 := iz4.same 7 (.int .i64 0) rfl
        have s8 := iz4.same 8 (.int .i64 0) rfl
        have s9 := iz4.same 9 (.int .i64 0) rfl
        have s10 := iz4.same 10 (.int .i64 0) rfl
        have s11 := iz4.same 11 (.int .i64 0) rfl
        have s12 := iz4.same 12 (.int .i64 0) rfl
        have fz := iz4.frozen
        have hlz := iz4.lt
        obtain ⟨y0, y1⟩ := if4.cells
        have ff := if4.frozen
        have hlf := if4.lt
        go_wp2_with (fail)
        have q1 : Fb ((w4.setCell ⟨w.heap.size + 1 + 1, 0, none⟩ (.int .i64 ((k : Nat)))).setCell ⟨w.heap.size + 1 + 1, 1, none⟩ (.int .i64 7)) (w.heap.size + 1 + 1) ((k : Nat)) 7 := (if4.set0 ((k : Nat))).set1 7
        have q2 : Ib ((w4.setCell ⟨w.heap.size + 1 + 1, 0, none⟩ (.int .i64 ((k : Nat)))).setCell ⟨w.heap.size + 1 + 1, 1, none⟩ (.int .i64 7)) (w.heap.size + 1) zI := iz4.below (((Below.refl (w.heap.size + 1 + 1) w4).setCell (Nat.le_refl _) _).setCell (Nat.le_refl _) _) (by omega)
        have q3 : Below w.heap.size w ((w4.setCell ⟨w.heap.size + 1 + 1, 0, none⟩ (.int .i64 ((k : Nat)))).setCell ⟨w.heap.size + 1 + 1, 1, none⟩ (.int .i64 7)) := (bw4.setCell (show w.heap.size ≤ w.heap.size + 1 + 1 by omega) _).setCell (show w.heap.size ≤ w.heap.size + 1 + 1 by omega) _
        clear z0 z1 z2 z3 z4 z5 z6 z7 z8 z9 z10 z11 z12 s0 s1 s2 s3 s4 s5 s6 s7 s8 s9 s10 s11 s12 fz hlz y0 y1 ff hlf
        clear iz4 if4 bw4
        generalize ((w4.setCell ⟨w.heap.size + 1 + 1, 0, none⟩ (.int .i64 ((k : Nat)))).setCell ⟨w.heap.size + 1 + 1, 1, none⟩ (.int .i64 7)) = W8 at *
        obtain ⟨z0, z1, z2, z3, z4, z5, z6, z7, z8, z9, z10, z11, z12⟩ := q2.cells
        obtain ⟨y0, y1⟩ := q1.cells
        exact bodyPost_ret (v := .tuple #[zI.v, fV (some (k, 7))]) (by simp [results, Tryd.results18, go_sem, fV, z0, z1, z2, z3, z4, z5, z6, z7, z8, z9, z10, z11, z12, y0, y1]) rfl ⟨rfl, q3⟩
    · obtain rfl : k = 7 := by omega
      have hr : fst7 (fitL l I B) = 7 := IsFirst.uniq (fst7_first _) ⟨Nat.le_refl _, hall.out, fun h => absurd h (by omega)⟩
      have ex := HXV.out
      have ee := HER.out
      rw [hr, if_pos rfl] at ex ee
      subst ee
      clear HXV HER hr hall hk h7 g0 g1 g2 hlg
      have d0 : wr.cell? ⟨b, off, none⟩ = some (.int .u64 (v0 : Nat)) := by
        have := (hbr.out.cell (p := (⟨b, off, none⟩ : Addr).add 0) (by rw [add_block]; exact hbl)).trans (HC.out 0 (by omega))
        rw [← HV0.out] at this
        exact this
      obtain ⟨v1, hv1⟩ : ∃ v, v = l.getD 1 0 := ⟨_, rfl⟩
      have d1 : wr.cell? ⟨b, off + 1, none⟩ = some (.int .u64 (v1 : Nat)) := by
        have := (hbr.out.cell (p := (⟨b, off, none⟩ : Addr).add 1) (by rw [add_block]; exact hbl)).trans (HC.out 1 (by omega))
        rw [← hv1] at this
        exact this
      have l1 := HL.out 1
      rw [← hv1] at l1
      obtain ⟨v2, hv2⟩ : ∃ v, v = l.getD 2 0 := ⟨_, rfl⟩
      have d2 : wr.cell? ⟨b, off + 2, none⟩ = some (.int .u64 (v2 : Nat)) := by
        have := (hbr.out.cell (p := (⟨b, off, none⟩ : Addr).add 2) (by rw [add_block]; exact hbl)).trans (HC.out 2 (by omega))
        rw [← hv2] at this
        exact this
      have l2 := HL.out 2
      rw [← hv2] at l2
      obtain ⟨v3, hv3⟩ : ∃ v, v = l.getD 3 0 := ⟨_, rfl⟩
      have d3 : wr.cell? ⟨b, off + 3, none⟩ = some (.int .u64 (v3 : Nat)) := by
        have := (hbr.out.cell (p := (⟨b, off, none⟩ : Addr).add 3) (by rw [add_block]; exact hbl)).trans (HC.out 3 (by omega))
        rw [← hv3] at this
        exact this
      have l3 := HL.out 3
      rw [← hv3] at l3
      obtain ⟨v4, hv4⟩ : ∃ v, v = l.getD 4 0 := ⟨_, rfl⟩
      have d4 : wr.cell? ⟨b, off + 4, none⟩ = some (.int .u64 (v4 : Nat)) := by
        have := (hbr.out.cell (p := (⟨b, off, none⟩ : Addr).add 4) (by rw [add_block]; exact hbl)).trans (HC.out 4 (by omega))
        rw [← hv4] at this
        exact this
      have l4 := HL.out 4
      rw [← hv4] at l4
      obtain ⟨v5, hv5⟩ : ∃ v, v = l.getD 5 0 := ⟨_, rfl⟩
      have d5 : wr.cell? ⟨b, off + 5, none⟩ = some (.int .u64 (v5 : Nat)) := by
        have := (hbr.out.cell (p := (⟨b, off, none⟩ : Addr).add 5) (by rw [add_block]; exact hbl)).trans (HC.out 5 (by omega))
        rw [← hv5] at this
        exact this
      have l5 := HL.out 5
      rw [← hv5] at l5
      obtain ⟨v6, hv6⟩ : ∃ v, v = l.getD 6 0 := ⟨_, rfl⟩
      have d6 : wr.cell? ⟨b, off + 6, none⟩ = some (.int .u64 (v6 : Nat)) := by
        have := (hbr.out.cell (p := (⟨b, off, none⟩ : Addr).add 6) (by rw [add_block]; exact hbl)).trans (HC.out 6 (by omega))
        rw [← hv6] at this
        exact this
      have l6 := HL.out 6
      rw [← hv6] at l6
      have l0 := L0.out
      have hx0 : x = rdW v0 v1 v2 v3 v4 v5 v6 := by rw [ex, hv1, hv2, hv3, hv4, hv5, hv6, HV0.out]; rfl
      have hkk : v0 % 256 = kk := by rw [HV0.out]; exact HKK.out
      have iz3 := Iz2.out.below hbr.out Iz2.out.lt
      have if3 := If2.out.below hbr.out If2.out.lt
      have bw3 := Bw2.out.trans (hbr.out.mono Bw2.out.size)
      have hbr2 := Nat.lt_of_lt_of_le hbl hbr.out.size
      clear ex hv1 hv2 hv3 hv4 hv5 hv6 HV0 HKK HC HL L0 Iz2 If2 Bw2 Hg2 hbr
      have eL : IntKind.i64.wrap (((v0 : Int) / 256).tmod 256) = ((v0 / 256 % 256 : Nat) : Int) := by
        rw [Int.tmod_eq_emod_of_nonneg (by omega), show ((v0 : Int) / 256 % 256) = ((v0 / 256 % 256 : Nat) : Int) by omega]
        exact wrap64 (by omega)
      have eG : IntKind.u32.wrap ((v0 : Int) / 4294967296) = ((v0 / 4294967296 % 4294967296 : Nat) : Int) := by
        rw [show ((v0 : Int) / 4294967296) = ((v0 / 4294967296 % 4294967296 : Nat) : Int) by omega]
        exact wrap32 (by omega)
      have e1 := i64_wrap v1 l1
      have e2 := i64_wrap v2 l2
      have e3 := i64_wrap v3 l3
      have e4 := i64_wrap v4 l4
      have e5 := i64_wrap v5 l5
      have e6 := i64_wrap v6 l6
      obtain ⟨xl, hxl⟩ : ∃ n, n = v0 / 256 % 256 := ⟨_, rfl⟩
      obtain ⟨xg, hxg⟩ : ∃ n, n = v0 / 4294967296 % 4294967296 := ⟨_, rfl⟩
      rw [← hxl] at eL
      rw [← hxg] at eG
      obtain ⟨pK, pL, pG, pS, pA, pP, pT, pC⟩ := rdW_parts v0 v1 v2 v3 v4 v5 v6
      rw [hkk] at pK
      rw [← hxl] at pL
      rw [← hxg] at pG
      have HD := Lib.hid fun h2 : kk = 2 => rdW_dir v0 v1 v2 v3 v4 v5 v6 (by omega)
      have HO := Lib.hid fun h2 : ¬ kk = 2 => rdW_other v0 v1 v2 v3 v4 v5 v6 (by omega)
      rw [← hx0] at pK pL pG pS pA pP pT pC HD HO
      obtain ⟨K0, L0, G0, S0, A0, M0, H00, H10, H20, H30, P0, T0, C0⟩ := x
      simp only at pK pL pG pS pA pP pT pC HD HO
      subst pK pL pG pS pA pP pT pC
      clear hx0 hxl hxg hkk l0 l1 l2 l3 l4 l5 l6
      go_upto_region 14 with (fail)
      have hlt : b < wr.heap.size := hbr2
      go_cut [10] (fun pp wx => pp = .pointer (some ⟨wr.heap.size, 0, none⟩) ∧ wx = (wr.alloc (.cells (Ino.c ⟨kk, xl, xg, i64 v1, i64 v2, 0, 0, 0, 0, 0, i64 v4, i64 v5, i64 v6⟩) 25)).drew)
      case first =>
        go_region_held3 (fun u => u.cell? ⟨b, off, none⟩ = some (.int .u64 (v0 : Nat)) ∧ u.cell? ⟨b, off + 1, none⟩ = some (.int .u64 (v1 : Nat)) ∧ u.cell? ⟨b, off + 2, none⟩ = some (.int .u64 (v2 : Nat)) ∧ u.cell? ⟨b, off + 4, none⟩ = some (.int .u64 (v4 : Nat)) ∧ u.cell? ⟨b, off + 5, none⟩ = some (.int .u64 (v5 : Nat)) ∧ u.cell? ⟨b, off + 6, none⟩ = some (.int .u64 (v6 : Nat))) (first | exact ⟨d0, d1, d2, d4, d5, d6⟩ | exact ⟨(World.cell?_alloc_lt _ _ _ hlt).trans d0, (World.cell?_alloc_lt _ _ _ hlt).trans d1, (World.cell?_alloc_lt _ _ _ hlt).trans d2, (World.cell?_alloc_lt _ _ _ hlt).trans d4, (World.cell?_alloc_lt _ _ _ hlt).trans d5, (World.cell?_alloc_lt _ _ _ hlt).trans d6⟩) (first | fail)
        all_goals
          go_wp2
          go_meet
          exact ⟨rfl, rfl⟩
      case rest =>
        obtain ⟨rfl, hwc⟩ := hcut
        have ix : Ib wc wr.heap.size ⟨kk, xl, xg, i64 v1, i64 v2, 0, 0, 0, 0, 0, i64 v4, i64 v5, i64 v6⟩ := by
          rw [hwc]; exact (Ib.new wr ⟨kk, xl, xg, i64 v1, i64 v2, 0, 0, 0, 0, 0, i64 v4, i64 v5, i64 v6⟩).drewN 1
        have bc : Below wr.heap.size wr wc := by
          rw [hwc]; exact below_drewN ((Below.refl wr.heap.size wr).alloc (Nat.le_refl _) _) 1
        have iz := iz3.below bc iz3.lt
        have fb := if3.below bc if3.lt
        have hs3 := bw3.size
        have bw := bw3.trans (bc.mono hs3)
        have c3 := (bc.cell (p := ⟨b, off + 3, none⟩) hlt).trans d3
        have hz1 := iz3.lt
        have hf1 := if3.lt
        have ne1 : ¬ wr.heap.size = b := by omega
        clear d0 d1 d2 d3 d4 d5 d6 hwc bw3 bc iz3 if3 e1 e2 e4 e5 e6 eL eG hs3
        by_cases hk2 : kk = 2
        · obtain ⟨qM, q0, q1, q2, q3⟩ := HD.out hk2
          have E0 : IntKind.i64.wrap ((v3 : Int) % 256) = ((v3 % 256 : Nat) : Int) := by
            rw [show ((v3 : Int) % 256) = ((v3 % 256 : Nat) : Int) by omega]
            exact wrap64 (by omega)
          have D0 : IntKind.i64.wrap ((v3 : Int).tmod 256) = ((v3 % 256 : Nat) : Int) := by
            rw [Int.tmod_eq_emod_of_nonneg (by omega)]; exact E0
          have E1 : IntKind.i64.wrap ((v3 : Int) / 256 % 256) = ((v3 / 256 % 256 : Nat) : Int) := by
            rw [show ((v3 : Int) / 256 % 256) = ((v3 / 256 % 256 : Nat) : Int) by omega]
            exact wrap64 (by omega)
          have D1 : IntKind.i64.wrap (((v3 : Int) / 256).tmod 256) = ((v3 / 256 % 256 : Nat) : Int) := by
            rw [Int.tmod_eq_emod_of_nonneg (by omega)]; exact E1
          have E2 : IntKind.i64.wrap ((v3 : Int) / 65536 % 256) = ((v3 / 65536 % 256 : Nat) : Int) := by
            rw [show ((v3 : Int) / 65536 % 256) = ((v3 / 65536 % 256 : Nat) : Int) by omega]
            exact wrap64 (by omega)
          have D2 : IntKind.i64.wrap (((v3 : Int) / 65536).tmod 256) = ((v3 / 65536 % 256 : Nat) : Int) := by
            rw [Int.tmod_eq_emod_of_nonneg (by omega)]; exact E2
          have E3 : IntKind.i64.wrap ((v3 : Int) / 16777216 % 256) = ((v3 / 16777216 % 256 : Nat) : Int) := by
            rw [show ((v3 : Int) / 16777216 % 256) = ((v3 / 16777216 % 256 : Nat) : Int) by omega]
            exact wrap64 (by omega)
          have D3 : IntKind.i64.wrap (((v3 : Int) / 16777216).tmod 256) = ((v3 / 16777216 % 256 : Nat) : Int) := by
            rw [Int.tmod_eq_emod_of_nonneg (by omega)]; exact E3
          generalize v3 % 256 = b0 at *
          generalize v3 / 256 % 256 = b1 at *
          generalize v3 / 65536 % 256 = b2 at *
          generalize v3 / 16777216 % 256 = b3 at *
          subst qM q0 q1 q2 q3
          have hk3 : ((kk : Int) == 2) = true := by rw [beq_iff_eq]; omega
          obtain ⟨x0, -⟩ := ix.cells
          have hlx := ix.lt
          have KK := Lib.hid hk2
          clear HD HO e3 hk2
          go_wp2_with (fail)
          clear x0 hk3
          have fx := ix.frozen
          obtain ⟨x0, x1, x2, x3, x4, x5, x6, x7, x8, x9, x10, x11, x12⟩ := ix.cells
          refine wp_loop_rounds 5 ?_
          rw [rounds_succ]
          go_upto_region 20 with (fail)
          have jx4 := ix.set6 (b0 : Nat)
          have jz4 : Ib (wc.setCell ⟨wr.heap.size, 6, none⟩ (.int .i64 (b0 : Nat))) (w.heap.size + 1) zI := iz.below ((Below.refl wr.heap.size wc).setCell (Nat.le_refl _) _) hz1
          have jf4 : Fb (wc.setCell ⟨wr.heap.size, 6, none⟩ (.int .i64 (b0 : Nat))) (w.heap.size + 1 + 1) 0 0 := fb.below ((Below.refl wr.heap.size wc).setCell (Nat.le_refl _) _) hf1
          have jb4 := bw.setCell (p := ⟨wr.heap.size, 6, none⟩) (show w.heap.size ≤ wr.heap.size by omega) (.int .i64 (b0 : Nat))
          have jc4 := (((Below.refl wr.heap.size wc).setCell (p := ⟨wr.heap.size, 6, none⟩) (Nat.le_refl _) (.int .i64 (b0 : Nat))).cell (p := ⟨b, off + 3, none⟩) hlt).trans c3
          clear x0 x1 x2 x3 x4 x5 x6 x7 x8 x9 x10 x11 x12 fx hlx ix iz bw c3 fb
          generalize wc.setCell ⟨wr.heap.size, 6, none⟩ (.int .i64 (b0 : Nat)) = v_w4 at *
          have fx := jx4.frozen
          have hlx := jx4.lt
          obtain ⟨x0, x1, x2, x3, x4, x5, x6, x7, x8, x9, x10, x11, x12⟩ := jx4.cells
          go_wp2_with (fail)
          rw [rounds_succ]
          go_upto_region 20 with (fail)
          have jx5 := jx4.set7 (b1 : Nat)
          have jz5 : Ib (v_w4.setCell ⟨wr.heap.size, 7, none⟩ (.int .i64 (b1 : Nat))) (w.heap.size + 1) zI := jz4.below ((Below.refl wr.heap.size v_w4).setCell (Nat.le_refl _) _) hz1
          have jf5 : Fb (v_w4.setCell ⟨wr.heap.size, 7, none⟩ (.int .i64 (b1 : Nat))) (w.heap.size + 1 + 1) 0 0 := jf4.below ((Below.refl wr.heap.size v_w4).setCell (Nat.le_refl _) _) hf1
          have jb5 := jb4.setCell (p := ⟨wr.heap.size, 7, none⟩) (show w.heap.size ≤ wr.heap.size by omega) (.int .i64 (b1 : Nat))
          have jc5 := (((Below.refl wr.heap.size v_w4).setCell (p := ⟨wr.heap.size, 7, none⟩) (Nat.le_refl _) (.int .i64 (b1 : Nat))).cell (p := ⟨b, off + 3, none⟩) hlt).trans jc4
          clear x0 x1 x2 x3 x4 x5 x6 x7 x8 x9 x10 x11 x12 fx hlx jx4 jz4 jb4 jc4 jf4
          generalize v_w4.setCell ⟨wr.heap.size, 7, none⟩ (.int .i64 (b1 : Nat)) = v_w5 at *
          have fx := jx5.frozen
          have hlx := jx5.lt
          obtain ⟨x0, x1, x2, x3, x4, x5, x6, x7, x8, x9, x10, x11, x12⟩ := jx5.cells
          go_wp2_with (fail)
          rw [rounds_succ]
          go_upto_region 20 with (fail)
          have jx6 := jx5.set8 (b2 : Nat)
          have jz6 : Ib (v_w5.setCell ⟨wr.heap.size, 8, none⟩ (.int .i64 (b2 : Nat))) (w.heap.size + 1) zI := jz5.below ((Below.refl wr.heap.size v_w5).setCell (Nat.le_refl _) _) hz1
          have jf6 : Fb (v_w5.setCell ⟨wr.heap.size, 8, none⟩ (.int .i64 (b2 : Nat))) (w.heap.size + 1 + 1) 0 0 := jf5.below ((Below.refl wr.heap.size v_w5).setCell (Nat.le_refl _) _) hf1
          have jb6 := jb5.setCell (p := ⟨wr.heap.size, 8, none⟩) (show w.heap.size ≤ wr.heap.size by omega) (.int .i64 (b2 : Nat))
          have jc6 := (((Below.refl wr.heap.size v_w5).setCell (p := ⟨wr.heap.size, 8, none⟩) (Nat.le_refl _) (.int .i64 (b2 : Nat))).cell (p := ⟨b, off + 3, none⟩) hlt).trans jc5
          clear x0 x1 x2 x3 x4 x5 x6 x7 x8 x9 x10 x11 x12 fx hlx jx5 jz5 jb5 jc5 jf5
          generalize v_w5.setCell ⟨wr.heap.size, 8, none⟩ (.int .i64 (b2 : Nat)) = v_w6 at *
          have fx := jx6.frozen
          have hlx := jx6.lt
          obtain ⟨x0, x1, x2, x3, x4, x5, x6, x7, x8, x9, x10, x11, x12⟩ := jx6.cells
          go_wp2_with (fail)
          rw [rounds_succ]
          go_upto_region 20 with (fail)
          have jx7 := jx6.set9 (b3 : Nat)
          have jz7 : Ib (v_w6.setCell ⟨wr.heap.size, 9, none⟩ (.int .i64 (b3 : Nat))) (w.heap.size + 1) zI := jz6.below ((Below.refl wr.heap.size v_w6).setCell (Nat.le_refl _) _) hz1
          have jf7 : Fb (v_w6.setCell ⟨wr.heap.size, 9, none⟩ (.int .i64 (b3 : Nat))) (w.heap.size + 1 + 1) 0 0 := jf6.below ((Below.refl wr.heap.size v_w6).setCell (Nat.le_refl _) _) hf1
          have jb7 := jb6.setCell (p := ⟨wr.heap.size, 9, none⟩) (show w.heap.size ≤ wr.heap.size by omega) (.int .i64 (b3 : Nat))
          have jc7 := (((Below.refl wr.heap.size v_w6).setCell (p := ⟨wr.heap.size, 9, none⟩) (Nat.le_refl _) (.int .i64 (b3 : Nat))).cell (p := ⟨b, off + 3, none⟩) hlt).trans jc6
          clear x0 x1 x2 x3 x4 x5 x6 x7 x8 x9 x10 x11 x12 fx hlx jx6 jz6 jb6 jc6 jf6
          generalize v_w6.setCell ⟨wr.heap.size, 9, none⟩ (.int .i64 (b3 : Nat)) = v_w7 at *
          have fx := jx7.frozen
          have hlx := jx7.lt
          obtain ⟨x0, x1, x2, x3, x4, x5, x6, x7, x8, x9, x10, x11, x12⟩ := jx7.cells
          go_wp2_with (fail)
          rw [rounds_succ]
          clear x0 x1 x2 x3 x4 x5 x6 x7 x8 x9 x10 x11 x12 fx
          go_upto_region 22 with (fail)
          refine wp_region_lit ?_
          refine wpList_load_row rfl 25 (.tmp 10) rfl wr.heap.size rfl 25 _ (0, 0) _ jx7 Tryd.underlying25 rfl (by kernel_rfl) ?_
          refine wpList_build rfl 51 #[] rfl (by kernel_rfl) ?_
          refine wpList_store_row rfl 25 (.tmp 4) (.tmp 107) rfl (w.heap.size + 1) _ rfl rfl 25 _ jz7 (by kernel_rfl) rfl (Ino.one _) ?_
          have q8 : Ib (v_w7.setRow (w.heap.size + 1) (Ino.c ⟨kk, xl, xg, i64 v1, i64 v2, 0, b0, b1, b2, b3, i64 v4, i64 v5, i64 v6⟩)) (w.heap.size + 1) ⟨kk, xl, xg, i64 v1, i64 v2, 0, b0, b1, b2, b3, i64 v4, i64 v5, i64 v6⟩ := setRow_heap v_w7 (w.heap.size + 1) _ (Ino.c ⟨kk, xl, xg, i64 v1, i64 v2, 0, b0, b1, b2, b3, i64 v4, i64 v5, i64 v6⟩) 25 (0, 0) jz7
          have q9 := below_setRow jb7 (show w.heap.size ≤ w.heap.size + 1 by omega) (Ino.c ⟨kk, xl, xg, i64 v1, i64 v2, 0, b0, b1, b2, b3, i64 v4, i64 v5, i64 v6⟩)
          have q10 : Fb (v_w7.setRow (w.heap.size + 1) (Ino.c ⟨kk, xl, xg, i64 v1, i64 v2, 0, b0, b1, b2, b3, i64 v4, i64 v5, i64 v6⟩)) (w.heap.size + 1 + 1) 0 0 := (setRow_other v_w7 (w.heap.size + 1) (w.heap.size + 1 + 1) _ (by omega)).trans jf7
          generalize v_w7.setRow (w.heap.size + 1) (Ino.c ⟨kk, xl, xg, i64 v1, i64 v2, 0, b0, b1, b2, b3, i64 v4, i64 v5, i64 v6⟩) = W7 at *
          refine wpList_store_row rfl 51 (.tmp 5) (.tmp 108) rfl (w.heap.size + 1 + 1) #[.int .i64 0, .int .i64 0] rfl (by kernel_rfl) 51 _ q10 (by kernel_rfl) rfl (by rw [← Array.all_toList]; rfl) ?_
          refine wpList_nil ?_
          have y8 : Fb (W7.setRow (w.heap.size + 1 + 1) #[.int .i64 0, .int .i64 0]) (w.heap.size + 1 + 1) 0 0 := setRow_heap W7 (w.heap.size + 1 + 1) _ _ 51 (0, 0) q10
          have y9 := below_setRow q9 (show w.heap.size ≤ w.heap.size + 1 + 1 by omega) #[.int .i64 0, .int .i64 0]
          have y10 : Ib (W7.setRow (w.heap.size + 1 + 1) #[.int .i64 0, .int .i64 0]) (w.heap.size + 1) ⟨kk, xl, xg, i64 v1, i64 v2, 0, b0, b1, b2, b3, i64 v4, i64 v5, i64 v6⟩ := (setRow_other W7 (w.heap.size + 1 + 1) (w.heap.size + 1) _ (by omega)).trans q8
          generalize W7.setRow (w.heap.size + 1 + 1) #[.int .i64 0, .int .i64 0] = W9 at *
          clear q8 q9 q10
          obtain ⟨z0, z1, z2, z3, z4, z5, z6, z7, z8, z9, z10, z11, z12⟩ := y10.cells
          obtain ⟨f0, f1⟩ := y8.cells
          clear y8 y10
          go_wp2_with (fail)
          exact bodyPost_ret (v := .tuple #[Ino.v ⟨kk, xl, xg, i64 v1, i64 v2, 0, b0, b1, b2, b3, i64 v4, i64 v5, i64 v6⟩, fV none]) (by simp [results, Tryd.results18, go_sem, fV, z0, z1, z2, z3, z4, z5, z6, z7, z8, z9, z10, z11, z12, f0, f1]) rfl ⟨rfl, y9⟩
        · obtain ⟨qM, q0, q1, q2, q3⟩ := HO.out hk2
          subst qM q0 q1 q2 q3
          have hk3 : ((kk : Int) == 2) = false := by rw [beq_eq_false_iff_ne]; omega
          have fx := ix.frozen
          have hlx := ix.lt
          obtain ⟨x0, x1, x2, x3, x4, x5, x6, x7, x8, x9, x10, x11, x12⟩ := ix.cells
          clear HD HO
          go_upto_region 17 with (fail)
          have ix4 := ix.set5 (i64 v3)
          have iz4 : Ib (wc.setCell ⟨wr.heap.size, 5, none⟩ (.int .i64 (i64 v3))) (w.heap.size + 1) zI := iz.below ((Below.refl wr.heap.size wc).setCell (Nat.le_refl _) _) hz1
          have if4 : Fb (wc.setCell ⟨wr.heap.size, 5, none⟩ (.int .i64 (i64 v3))) (w.heap.size + 1 + 1) 0 0 := fb.below ((Below.refl wr.heap.size wc).setCell (Nat.le_refl _) _) hf1
          have bw4 := bw.setCell (p := ⟨wr.heap.size, 5, none⟩) (show w.heap.size ≤ wr.heap.size by omega) (.int .i64 (i64 v3))
          clear x0 x1 x2 x3 x4 x5 x6 x7 x8 x9 x10 x11 x12 ix iz bw fx c3 fb e3 hk3
          generalize wc.setCell ⟨wr.heap.size, 5, none⟩ (.int .i64 (i64 v3)) = w5 at *
          refine wp_region_lit ?_
          refine wpList_load_row rfl 25 (.tmp 10) rfl wr.heap.size rfl 25 _ (0, 0) _ ix4 Tryd.underlying25 rfl (by kernel_rfl) ?_
          refine wpList_build rfl 51 #[] rfl (by kernel_rfl) ?_
          refine wpList_store_row rfl 25 (.tmp 4) (.tmp 89) rfl (w.heap.size + 1) _ rfl rfl 25 _ iz4 (by kernel_rfl) rfl (Ino.one _) ?_
          have q8 : Ib (w5.setRow (w.heap.size + 1) (Ino.c ⟨kk, xl, xg, i64 v1, i64 v2, i64 v3, 0, 0, 0, 0, i64 v4, i64 v5, i64 v6⟩)) (w.heap.size + 1) ⟨kk, xl, xg, i64 v1, i64 v2, i64 v3, 0, 0, 0, 0, i64 v4, i64 v5, i64 v6⟩ := setRow_heap w5 (w.heap.size + 1) _ (Ino.c ⟨kk, xl, xg, i64 v1, i64 v2, i64 v3, 0, 0, 0, 0, i64 v4, i64 v5, i64 v6⟩) 25 (0, 0) iz4
          have q9 := below_setRow bw4 (show w.heap.size ≤ w.heap.size + 1 by omega) (Ino.c ⟨kk, xl, xg, i64 v1, i64 v2, i64 v3, 0, 0, 0, 0, i64 v4, i64 v5, i64 v6⟩)
          have q10 : Fb (w5.setRow (w.heap.size + 1) (Ino.c ⟨kk, xl, xg, i64 v1, i64 v2, i64 v3, 0, 0, 0, 0, i64 v4, i64 v5, i64 v6⟩)) (w.heap.size + 1 + 1) 0 0 := (setRow_other w5 (w.heap.size + 1) (w.heap.size + 1 + 1) _ (by omega)).trans if4
          generalize w5.setRow (w.heap.size + 1) (Ino.c ⟨kk, xl, xg, i64 v1, i64 v2, i64 v3, 0, 0, 0, 0, i64 v4, i64 v5, i64 v6⟩) = W7 at *
          refine wpList_store_row rfl 51 (.tmp 5) (.tmp 90) rfl (w.heap.size + 1 + 1) #[.int .i64 0, .int .i64 0] rfl (by kernel_rfl) 51 _ q10 (by kernel_rfl) rfl (by rw [← Array.all_toList]; rfl) ?_
          refine wpList_nil ?_
          have y8 : Fb (W7.setRow (w.heap.size + 1 + 1) #[.int .i64 0, .int .i64 0]) (w.heap.size + 1 + 1) 0 0 := setRow_heap W7 (w.heap.size + 1 + 1) _ _ 51 (0, 0) q10
          have y9 := below_setRow q9 (show w.heap.size ≤ w.heap.size + 1 + 1 by omega) #[.int .i64 0, .int .i64 0]
          have y10 : Ib (W7.setRow (w.heap.size + 1 + 1) #[.int .i64 0, .int .i64 0]) (w.heap.size + 1) ⟨kk, xl, xg, i64 v1, i64 v2, i64 v3, 0, 0, 0, 0, i64 v4, i64 v5, i64 v6⟩ := (setRow_other W7 (w.heap.size + 1 + 1) (w.heap.size + 1) _ (by omega)).trans q8
          generalize W7.setRow (w.heap.size + 1 + 1) #[.int .i64 0, .int .i64 0] = W9 at *
          clear q8 q9 q10
          obtain ⟨z0, z1, z2, z3, z4, z5, z6, z7, z8, z9, z10, z11, z12⟩ := y10.cells
          obtain ⟨f0, f1⟩ := y8.cells
          clear y8 y10
          go_wp2_with (fail)
          exact bodyPost_ret (v := .tuple #[Ino.v ⟨kk, xl, xg, i64 v1, i64 v2, i64 v3, 0, 0, 0, 0, i64 v4, i64 v5, i64 v6⟩, fV none]) (by simp [results, Tryd.results18, go_sem, fV, z0, z1, z2, z3, z4, z5, z6, z7, z8, z9, z10, z11, z12, f0, f1]) rfl ⟨rfl, y9⟩
end Go.Proofs.YtppnicdhahgigaaDoor
