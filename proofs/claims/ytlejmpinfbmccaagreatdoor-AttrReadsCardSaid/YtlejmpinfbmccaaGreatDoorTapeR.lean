/- What is read off a tape: a named one, the head of a list, words, a key and its value. -/
import Derived.Test.YtlejmpinfbmccaaGreatDoorAv
import Derived.Test.YtlejmpinfbmccaaGreatDoorPackT
set_option linter.unusedSimpArgs false
set_option linter.unusedVariables false
set_option linter.unusedSimpArgs false
set_option linter.unusedVariables false
namespace Go.Proofs.YtlejmpinfbmccaaGreatDoor
open Go.RowKit WordMath
/-- A tape that is read, and a block of the call's own (g) beside it. -/
structure Gst (w wr : World) (b : Nat) (l : List Nat) (i g : Nat) (t : TypeId) (cs : Array Value) : Prop where
  tr : Tr wr b l i
  cb : wr.heap[g]? = some (.cells cs t (0, 0))
  on : OnlyB b w wr
  ge : w.heap.size ≤ g
  ne : g ≠ b
section
variable {w wr w' : World} {b i i' g : Nat} {l : List Nat} {t : TypeId} {cs : Array Value}
theorem Gst.call (h : Gst w wr b l i g t cs) (ho : OnlyB b wr w') (ht : Tr w' b l i') : Gst w w' b l i' g t cs :=
  ⟨ht, (ho.block _ (lt_of_cells h.cb) h.ne).trans h.cb, h.on.tr ho, h.ge, h.ne⟩
theorem Gst.below (h : Gst w wr b l i g t cs) (ho : Below wr.heap.size wr w') : Gst w w' b l i g t cs :=
  ⟨h.tr.below ho, (ho.block _ (lt_of_cells h.cb)).trans h.cb, h.on.tr (Only.of_below _ ho), h.ge, h.ne⟩
theorem Gst.store (h : Gst w wr b l i g t cs) (k : Nat) (v : Value) : Gst w (wr.setCell ⟨g, k, none⟩ v) b l i g t (cs.setIfInBounds k v) := by
  refine ⟨?_, set_cell h.cb k v, h.on.setCell (p := ⟨g, k, none⟩) (.inr h.ge) v, h.ge, h.ne⟩
  have e := Below.heap_setCell wr ⟨g, k, none⟩ v b (Ne.symm h.ne)
  exact e.trans h.tr
theorem Gst.cell (h : Gst w wr b l i g t cs) (k : Nat) : wr.cell? ⟨g, k, none⟩ = cs[k]? := cell_of_row wr g k _ _ _ h.cb
theorem Gst.frozen (h : Gst w wr b l i g t cs) (k : Nat) : wr.frozen? ⟨g, k, none⟩ = false := by
  have := h.cb
  simp [World.frozen?, this]
theorem Gst.start (w : World) (cs : Array Value) (t : TypeId) (h : Tr w b l i) : Gst w (w.alloc (.cells cs t)) b l i w.heap.size t cs :=
  ⟨h.below ((Below.refl _ _).alloc (Nat.le_refl _) _), heap_alloc_new _ _, (Only.refl (fun k => k = b) w).alloc _, Nat.le_refl _, by have := h.lt; omega⟩
end
theorem fld16 (W n : Nat) : fld W n 16 < 65536 := fld_lt W n 16
theorem fld8 (W n : Nat) : fld W n 8 < 256 := fld_lt W n 8
theorem fld4 (W n : Nat) : fld W n 4 < 16 := fld_lt W n 4
abbrev nmR (W n : Nat) : Nm := ⟨fld W n 16, fld W (n + 16) 16 % 256⟩
set_option maxRecDepth 100000 in
theorem getNamed_calls (b : Nat) (l : List Nat) (g n : Nat) (w : World) (h : Tr w b l (64 * g + n)) (hl : l.length = 31) (hw : Wd l) (hg : g ≤ 30) (hn : n + 32 ≤ 64) :
    Calls Tryz.prog 101 #[.pointer (some ⟨b, 0, none⟩)] w fun e w' => e = .returned (nmv (nmR (l.getD g 0) n)) ∧ Tr w' b l (64 * g + (n + 32)) ∧ OnlyB b w w' := by
  obtain ⟨V, hV⟩ : ∃ V, V = w.alloc (.cells #[.int .u16 0, .int .u8 0] 54) := ⟨_, rfl⟩
  have S0 : Hid (Gst w V b l (64 * g + n) w.heap.size 54 #[.int .u16 0, .int .u8 0]) := Lib.hid (by rw [hV]; exact Gst.start w _ _ h)
  have HW := Lib.hid hw
  clear h hw
  go_enter Tryz.func101, Tryz.ntmps101
  go_upto_region 1 with (fail)
  rw [← hV]
  clear hV
  go_wp2_with (fail)
  refine (tget_calls b l g n 16 16 V rfl S0.out.tr hl HW.out hg (by decide) (by omega)).mono ?_
  rintro e w1 ⟨rfl, h1, h2⟩
  have S1 := Lib.hid (S0.out.call h2 h1)
  have b0 := fld16 (l.getD g 0) n
  obtain ⟨q0, hq0⟩ : ∃ q0, fld (l.getD g 0) n 16 = q0 := ⟨_, rfl⟩
  rw [hq0] at b0 ⊢
  have Q0 := Lib.hid hq0
  clear h1 h2 S0 hq0
  go_wp2_with (fail)
  refine (tget_calls b l g (n + 16) 16 16 w1 rfl S1.out.tr hl HW.out hg (by decide) (by omega)).mono ?_
  rintro e w2 ⟨rfl, h1, h2⟩
  have S2 := Lib.hid (S1.out.call h2 h1)
  have b1 := fld16 (l.getD g 0) (n + 16)
  obtain ⟨q1, hq1⟩ : ∃ q1, fld (l.getD g 0) (n + 16) 16 = q1 := ⟨_, rfl⟩
  rw [hq1] at b1 ⊢
  have Q1 := Lib.hid hq1
  clear h1 h2 S1 hq1
  have y0 : w2.cell? ⟨w.heap.size, 0, none⟩ = some (.int .u16 0) := S2.out.cell 0
  have y1 : w2.cell? ⟨w.heap.size, 1, none⟩ = some (.int .u8 0) := S2.out.cell 1
  have f0 := S2.out.frozen 0
  have f1 := S2.out.frozen 1
  go_wp2_with (fail)
  obtain ⟨U, hU⟩ : ∃ U, U = (w2.setCell ⟨w.heap.size, 0, none⟩ (.int .u16 (q0 : Nat))).setCell ⟨w.heap.size, 1, none⟩ (.int .u8 (q1 % 256 : Nat)) := ⟨_, rfl⟩
  have S3 : Gst w U b l (64 * g + (n + 16 + 16)) w.heap.size 54 #[.int .u16 (q0 : Nat), .int .u8 (q1 % 256 : Nat)] := by
    rw [hU]; exact (S2.out.store 0 (.int .u16 (q0 : Nat))).store 1 (.int .u8 (q1 % 256 : Nat))
  have hU' : (w2.setCell ⟨w.heap.size, 0, none⟩ (.int .u16 (q0 : Nat))).setCell ⟨w.heap.size, 1, none⟩ (.int .u8 ((q1 : Int) % 256)) = U := hU.symm
  rw [hU']
  clear hU hU' y0 y1 f0 f1 S2
  have y0 : U.cell? ⟨w.heap.size, 0, none⟩ = some (.int .u16 (q0 : Nat)) := S3.cell 0
  have y1 : U.cell? ⟨w.heap.size, 1, none⟩ = some (.int .u8 (q1 % 256 : Nat)) := S3.cell 1
  exact bodyPost_ret (v := nmv ⟨q0, q1 % 256⟩) (by simp [results, Tryz.results101, go_sem, y0, y1]) rfl ⟨by rw [← Q0.out, ← Q1.out], S3.tr, S3.on⟩
abbrev hdR (W : Nat) : Ac := ⟨fld W 0 4, fld W 4 4, fld W 8 4, [], [], decide (fld W 16 1 = 1), fld W 12 4⟩
set_option maxRecDepth 100000 in
set_option maxHeartbeats 1000000 in
theorem getHead_calls (b : Nat) (l : List Nat) (g : Nat) (w : World) (h : Tr w b l (64 * g + 0)) (hl : l.length = 31) (hw : Wd l) (hg : g ≤ 30) :
    Calls Tryz.prog 99 #[.pointer (some ⟨b, 0, none⟩)] w fun e w' => e = .returned (.tuple #[(hdR (l.getD g 0)).v lieZ, .int .i64 (fld (l.getD g 0) 20 4 : Nat), .int .i64 (fld (l.getD g 0) 24 4 : Nat)]) ∧ Tr w' b l (64 * (g + 1) + 0) ∧ OnlyB b w w' := by
  obtain ⟨V, hV⟩ : ∃ V, V = w.alloc (.cells zC 25) := ⟨_, rfl⟩
  have S0 : Hid (Gst w V b l (64 * g + 0) w.heap.size 25 zC) := Lib.hid (by rw [hV]; exact Gst.start w _ _ h)
  have HW := Lib.hid hw
  clear h hw
  go_enter Tryz.func99, Tryz.ntmps99
  go_upto_region 1 with (fail)
  rw [← hV]
  clear hV
  go_wp2_with (fail)
  refine (tget_calls b l g 0 4 4 V rfl S0.out.tr hl HW.out hg (by decide) (by decide)).mono ?_
  rintro e w1 ⟨rfl, h1, h2⟩
  have S1 := Lib.hid (S0.out.call h2 h1)
  have b0 := fld4 (l.getD g 0) 0
  obtain ⟨q0, hq0⟩ : ∃ q0, fld (l.getD g 0) 0 4 = q0 := ⟨_, rfl⟩
  rw [hq0] at b0 ⊢
  have Q0 := Lib.hid hq0
  clear h1 h2 S0 hq0
  have y : w1.cell? ⟨w.heap.size, 0, none⟩ = some (.int .u8 0) := S1.out.cell 0
  have f := S1.out.frozen 0
  have S2 : Hid (Gst w (w1.setCell ⟨w.heap.size, 0, none⟩ (.int .u8 (q0 : Nat))) b l _ w.heap.size 25 #[.int .u8 (q0 : Nat), .int .u8 0, .int .u8 0, .slice none 0 0, .slice none 0 0, .bool false, .int .u8 0]) := Lib.hid (S1.out.store 0 (.int .u8 (q0 : Nat)))
  obtain ⟨U0, hU0⟩ : ∃ U0, U0 = w1.setCell ⟨w.heap.size, 0, none⟩ (.int .u8 (q0 : Nat)) := ⟨_, rfl⟩
  rw [← hU0] at S2
  clear S1
  go_upto_region 2 with (fail)
  rw [← hU0]
  clear hU0 y f
  go_wp2_with (fail)
  refine (tget_calls b l g 4 4 4 U0 rfl S2.out.tr hl HW.out hg (by decide) (by decide)).mono ?_
  rintro e w2 ⟨rfl, h1, h2⟩
  have S3 := Lib.hid (S2.out.call h2 h1)
  have b1 := fld4 (l.getD g 0) 4
  obtain ⟨q1, hq1⟩ : ∃ q1, fld (l.getD g 0) 4 4 = q1 := ⟨_, rfl⟩
  rw [hq1] at b1 ⊢
  have Q1 := Lib.hid hq1
  clear h1 h2 S2 hq1
  have y : w2.cell? ⟨w.heap.size, 1, none⟩ = some (.int .u8 0) := S3.out.cell 1
  have f := S3.out.frozen 1
  have S4 : Hid (Gst w (w2.setCell ⟨w.heap.size, 1, none⟩ (.int .u8 (q1 : Nat))) b l _ w.heap.size 25 #[.int .u8 (q0 : Nat), .int .u8 (q1 : Nat), .int .u8 0, .slice none 0 0, .slice none 0 0, .bool false, .int .u8 0]) := Lib.hid (S3.out.store 1 (.int .u8 (q1 : Nat)))
  obtain ⟨U1, hU1⟩ : ∃ U1, U1 = w2.setCell ⟨w.heap.size, 1, none⟩ (.int .u8 (q1 : Nat)) := ⟨_, rfl⟩
  rw [← hU1] at S4
  clear S3
  go_upto_region 3 with (fail)
  rw [← hU1]
  clear hU1 y f
  go_wp2_with (fail)
  refine (tget_calls b l g 8 4 4 U1 rfl S4.out.tr hl HW.out hg (by decide) (by decide)).mono ?_
  rintro e w3 ⟨rfl, h1, h2⟩
  have S5 := Lib.hid (S4.out.call h2 h1)
  have b2 := fld4 (l.getD g 0) 8
  obtain ⟨q2, hq2⟩ : ∃ q2, fld (l.getD g 0) 8 4 = q2 := ⟨_, rfl⟩
  rw [hq2] at b2 ⊢
  have Q2 := Lib.hid hq2
  clear h1 h2 S4 hq2
  have y : w3.cell? ⟨w.heap.size, 2, none⟩ = some (.int .u8 0) := S5.out.cell 2
  have f := S5.out.frozen 2
  have S6 : Hid (Gst w (w3.setCell ⟨w.heap.size, 2, none⟩ (.int .u8 (q2 : Nat))) b l _ w.heap.size 25 #[.int .u8 (q0 : Nat), .int .u8 (q1 : Nat), .int .u8 (q2 : Nat), .slice none 0 0, .slice none 0 0, .bool false, .int .u8 0]) := Lib.hid (S5.out.store 2 (.int .u8 (q2 : Nat)))
  obtain ⟨U2, hU2⟩ : ∃ U2, U2 = w3.setCell ⟨w.heap.size, 2, none⟩ (.int .u8 (q2 : Nat)) := ⟨_, rfl⟩
  rw [← hU2] at S6
  clear S5
  go_upto_region 4 with (fail)
  rw [← hU2]
  clear hU2 y f
  go_wp2_with (fail)
  refine (tget_calls b l g 12 4 4 U2 rfl S6.out.tr hl HW.out hg (by decide) (by decide)).mono ?_
  rintro e w4 ⟨rfl, h1, h2⟩
  have S7 := Lib.hid (S6.out.call h2 h1)
  have b3 := fld4 (l.getD g 0) 12
  obtain ⟨q3, hq3⟩ : ∃ q3, fld (l.getD g 0) 12 4 = q3 := ⟨_, rfl⟩
  rw [hq3] at b3 ⊢
  have Q3 := Lib.hid hq3
  clear h1 h2 S6 hq3
  have y : w4.cell? ⟨w.heap.size, 6, none⟩ = some (.int .u8 0) := S7.out.cell 6
  have f := S7.out.frozen 6
  have S8 : Hid (Gst w (w4.setCell ⟨w.heap.size, 6, none⟩ (.int .u8 (q3 : Nat))) b l _ w.heap.size 25 #[.int .u8 (q0 : Nat), .int .u8 (q1 : Nat), .int .u8 (q2 : Nat), .slice none 0 0, .slice none 0 0, .bool false, .int .u8 (q3 : Nat)]) := Lib.hid (S7.out.store 6 (.int .u8 (q3 : Nat)))
  obtain ⟨U3, hU3⟩ : ∃ U3, U3 = w4.setCell ⟨w.heap.size, 6, none⟩ (.int .u8 (q3 : Nat)) := ⟨_, rfl⟩
  rw [← hU3] at S8
  clear S7
  go_upto_region 5 with (fail)
  rw [← hU3]
  clear hU3 y f
  go_wp2_with (fail)
  refine (getFlag_calls b l g 16 U3 S8.out.tr hl HW.out hg (by decide)).mono ?_
  rintro e w5 ⟨rfl, h1, h2⟩
  have S9 := Lib.hid (S8.out.call h2 h1)
  obtain ⟨q4, hq4⟩ : ∃ q4, decide (fld (l.getD g 0) 16 1 = 1) = q4 := ⟨_, rfl⟩
  rw [hq4]
  have Q4 := Lib.hid hq4
  clear h1 h2 S8 hq4
  have y : w5.cell? ⟨w.heap.size, 5, none⟩ = some (.bool false) := S9.out.cell 5
  have f := S9.out.frozen 5
  have S10 : Hid (Gst w (w5.setCell ⟨w.heap.size, 5, none⟩ (.bool q4)) b l _ w.heap.size 25 #[.int .u8 (q0 : Nat), .int .u8 (q1 : Nat), .int .u8 (q2 : Nat), .slice none 0 0, .slice none 0 0, .bool q4, .int .u8 (q3 : Nat)]) := Lib.hid (S9.out.store 5 (.bool q4))
  obtain ⟨U4, hU4⟩ : ∃ U4, U4 = w5.setCell ⟨w.heap.size, 5, none⟩ (.bool q4) := ⟨_, rfl⟩
  rw [← hU4] at S10
  clear S9
  go_upto_region 6 with (fail)
  rw [← hU4]
  clear hU4 y f
  go_wp2_with (fail)
  refine (to_tr b l (64 * g + 17) 20 (64 * g + 20) 20 U4 rfl S10.out.tr hl (by omega) (by decide) (by omega)).mono ?_
  rintro e w6 ⟨rfl, h1, h2⟩
  have S11 := Lib.hid (S10.out.call h2 h1)
  clear h1 h2 S10
  go_wp2_with (fail)
  refine (tget_calls b l g 20 4 4 w6 rfl S11.out.tr hl HW.out hg (by decide) (by decide)).mono ?_
  rintro e w7 ⟨rfl, h1, h2⟩
  have S12 := Lib.hid (S11.out.call h2 h1)
  have b6 := fld4 (l.getD g 0) 20
  obtain ⟨q6, hq6⟩ : ∃ q6, fld (l.getD g 0) 20 4 = q6 := ⟨_, rfl⟩
  rw [hq6] at b6 ⊢
  have Q6 := Lib.hid hq6
  clear h1 h2 S11 hq6
  go_wp2_with (fail)
  refine (tget_calls b l g 24 4 4 w7 rfl S12.out.tr hl HW.out hg (by decide) (by decide)).mono ?_
  rintro e w8 ⟨rfl, h1, h2⟩
  have S13 := Lib.hid (S12.out.call h2 h1)
  have b7 := fld4 (l.getD g 0) 24
  obtain ⟨q7, hq7⟩ : ∃ q7, fld (l.getD g 0) 24 4 = q7 := ⟨_, rfl⟩
  rw [hq7] at b7 ⊢
  have Q7 := Lib.hid hq7
  clear h1 h2 S12 hq7
  go_wp2_with (fail)
  refine (to_tr b l (64 * g + 28) 64 (64 * g + 64) 64 w8 rfl S13.out.tr hl (by omega) (by decide) (by omega)).mono ?_
  rintro e w9 ⟨rfl, h1, h2⟩
  have S14 := Lib.hid (S13.out.call h2 h1)
  clear h1 h2 S13
  have HC : Hid (∀ k u, (#[.int .u8 (q0 : Nat), .int .u8 (q1 : Nat), .int .u8 (q2 : Nat), .slice none 0 0, .slice none 0 0, .bool q4, .int .u8 (q3 : Nat)] : Array Value).toList[k]? = some u → w9.cell? ⟨w.heap.size, 0 + k, none⟩ = some u) := Lib.hid (fun k u hu => by rw [Nat.zero_add, S14.out.cell k]; simpa using hu)
  have hself := setRow_self w9 w.heap.size _ _ _ S14.out.cb
  have y0 : w9.cell? ⟨w.heap.size, 0, none⟩ = some (.int .u8 (q0 : Nat)) := S14.out.cell 0
  have y1 : w9.cell? ⟨w.heap.size, 1, none⟩ = some (.int .u8 (q1 : Nat)) := S14.out.cell 1
  have y2 : w9.cell? ⟨w.heap.size, 2, none⟩ = some (.int .u8 (q2 : Nat)) := S14.out.cell 2
  have y3 : w9.cell? ⟨w.heap.size, 3, none⟩ = some (.slice none 0 0) := S14.out.cell 3
  have y4 : w9.cell? ⟨w.heap.size, 4, none⟩ = some (.slice none 0 0) := S14.out.cell 4
  have y5 : w9.cell? ⟨w.heap.size, 5, none⟩ = some (.bool q4) := S14.out.cell 5
  have y6 : w9.cell? ⟨w.heap.size, 6, none⟩ = some (.int .u8 (q3 : Nat)) := S14.out.cell 6
  go_wp2_with (first
    | (refine wpList_load_part rfl 25 (.tmp 2) rfl w.heap.size 0 rfl (#[.int .u8 (q0 : Nat), .int .u8 (q1 : Nat), .int .u8 (q2 : Nat), .slice none 0 0, .slice none 0 0, .bool q4, .int .u8 (q3 : Nat)] : Array Value).toList _ HC.out Tryz.underlying25 rfl acl_size (.agg #[.int .u8 (q0 : Nat), .int .u8 (q1 : Nat), .int .u8 (q2 : Nat), .slice none 0 0, .slice none 0 0, .bool q4, .int .u8 (q3 : Nat)]) rfl ?_)
    | (refine wpList_store_row rfl 25 (.tmp 2) (.tmp 34) rfl w.heap.size #[.int .u8 (q0 : Nat), .int .u8 (q1 : Nat), .int .u8 (q2 : Nat), .slice none 0 0, .slice none 0 0, .bool q4, .int .u8 (q3 : Nat)] rfl rfl 25 _ S14.out.cb acl_size rfl (by rw [← Array.all_toList]; rfl) ?_; rw [hself]))
  exact bodyPost_ret (v := .tuple #[.agg #[.int .u8 (q0 : Nat), .int .u8 (q1 : Nat), .int .u8 (q2 : Nat), .slice none 0 0, .slice none 0 0, .bool q4, .int .u8 (q3 : Nat)], .int .i64 (q6 : Nat), .int .i64 (q7 : Nat)]) (by simp [results, Tryz.results99, go_sem, y0, y1, y2, y3, y4, y5, y6]) rfl ⟨by rw [← Q0.out]; rw [← Q1.out]; rw [← Q2.out]; rw [← Q3.out]; rw [← Q4.out]; rw [← Q6.out]; rw [← Q7.out]; rfl, S14.out.tr, S14.out.on⟩
end Go.Proofs.YtlejmpinfbmccaaGreatDoor
/- What is read off a tape: words, a key and its value. -/
set_option linter.unusedSimpArgs false
set_option linter.unusedVariables false
namespace Go.Proofs.YtlejmpinfbmccaaGreatDoor
open Go.RowKit WordMath
/-- Words of l from h on: m of them, the first k read. -/
def wdP (l : List Nat) (h m k : Nat) : List Nat := (List.range m).map fun j => if j < k then l.getD (h + j) 0 else 0
def wdA (l : List Nat) (h m : Nat) : List Nat := (List.range m).map fun j => l.getD (h + j) 0
theorem wdP_zero (l : List Nat) (h m : Nat) : wdP l h m 0 = List.replicate m 0 := by
  unfold wdP
  simp only [Nat.not_lt_zero, if_false]
  rw [List.map_const', List.length_range]
theorem wdP_all (l : List Nat) (h m : Nat) : wdP l h m m = wdA l h m := by
  unfold wdP wdA
  apply List.map_congr_left
  intro j hj
  rw [if_pos (by simpa using hj)]
theorem wdP_set (l : List Nat) (h m k : Nat) (hk : k < m) : (wdP l h m k).set k (l.getD (h + k) 0) = wdP l h m (k + 1) := by
  apply List.ext_getElem?
  intro j
  rw [List.getElem?_set]
  unfold wdP
  by_cases hj : j < m
  · rw [List.getElem?_map, List.getElem?_map, List.getElem?_range hj]
    by_cases e : k = j
    · subst e
      simp [hk]
    · simp only [e, if_false, Option.map_some, Option.some.injEq]
      by_cases h1 : j < k
      · rw [if_pos h1, if_pos (by omega)]
      · rw [if_neg h1, if_neg (by omega)]
  · rw [List.getElem?_eq_none (l := List.map _ _) (by simp; omega)]
    rw [if_neg (by omega), List.getElem?_eq_none (by simp; omega)]
theorem wdP_length (l : List Nat) (h m k : Nat) : (wdP l h m k).length = m := by simp [wdP]
theorem wdA_length (l : List Nat) (h m : Nat) : (wdA l h m).length = m := by simp [wdA]
set_option maxRecDepth 100000 in
theorem getWords_calls (b : Nat) (l : List Nat) (g m : Nat) (mi : Int) (w : World) (hmi : mi = (m : Nat)) (h : Tr w b l (64 * g + 0)) (hl : l.length = 31) (hw : Wd l) (hg : g + m ≤ 31) :
    Calls Tryz.prog 111 #[.pointer (some ⟨b, 0, none⟩), .int .i64 mi] w fun e w' => e = .returned (.slice (some ⟨w.heap.size, 0, none⟩) m m) ∧ Tr w' b l (64 * (g + m) + 0) ∧ Blk 49 w' w.heap.size (wdA l g m) ∧ OnlyB b w w' := by
  subst hmi
  have hmk := run_make_row' (P := Tryz.prog) 36 49 (.int .u64 0) 8 Tryz.underlying36 u64_info rfl .i64 .i64 m (by omega) (by omega)
  have hlt := h.lt
  obtain ⟨V, hV⟩ : ∃ V, V = w.alloc (.cells (madeCells #[.int .u64 0] m) 49) := ⟨_, rfl⟩
  have hB0 : Blk 49 V w.heap.size (wdP l g m 0) := by rw [hV, wdP_zero]; exact Blk.new w 49 m
  have hAV : Below w.heap.size w V := by rw [hV]; exact (Below.refl _ _).alloc (Nat.le_refl _) _
  have HB0 := Lib.hid hB0
  have HT0 := Lib.hid (h.below hAV)
  have HO0 : Hid (OnlyB b w V) := Lib.hid (Only.of_below _ hAV)
  have HW := Lib.hid hw
  clear hB0 hAV h hw
  go_enter Tryz.func111, Tryz.ntmps111
  go_upto_region 2 with (fail)
  rw [← hV]
  clear hV hmk
  go_wp2_with (fail)
  go_loopw [11] (fun i wr => ∃ k : Nat, i = .int .i64 k ∧ k ≤ m ∧ Hid (Tr wr b l (64 * (g + k) + 0)) ∧ Hid (Blk 49 wr w.heap.size (wdP l g m k)) ∧ Hid (OnlyB b w wr)) (fun i _ => m - (intOf i).toNat)
  case atStart => exact ⟨0, rfl, by omega, HT0, HB0, HO0⟩
  case round =>
    obtain ⟨k, rfl, hk, hT, hB, hO⟩ := hrel
    by_cases hkm : k < m
    · have hne : w.heap.size ≠ b := by omega
      go_wp2_with (fail)
      refine (tget_calls b l (g + k) 0 64 64 wr rfl hT.out hl HW.out (by omega) (by decide) (by decide)).mono ?_
      rintro e w3 ⟨rfl, h1, h2⟩
      have hB3 := (h2.block _ hB.out.lt hne).trans hB.out
      have hc := Blk.cell hB3 k (by rw [wdP_length]; exact hkm)
      have hf := Blk.frozen hB3 k
      have hfl : fld (l.getD (g + k) 0) 0 64 = l.getD (g + k) 0 := by
        have := HW.out (g + k)
        unfold fld
        simp only [Nat.pow_zero, Nat.div_one, Nat.reducePow]
        exact Nat.mod_eq_of_lt this
      rw [hfl]
      have hS := Blk.set hB3 k (l.getD (g + k) 0)
      rw [wdP_set l g m k hkm] at hS
      have H1 : Hid (Tr (w3.setCell ⟨w.heap.size, k, none⟩ (.int .u64 (l.getD (g + k) 0 : Nat))) b l (64 * (g + (k + 1)) + 0)) := Lib.hid (by
        have e := Below.heap_setCell w3 ⟨w.heap.size, k, none⟩ (.int .u64 (l.getD (g + k) 0 : Nat)) b (fun e => hne e.symm)
        have h := e.trans h1
        rw [show 64 * (g + k) + (0 + 64) = 64 * (g + (k + 1)) + 0 by omega] at h
        exact h)
      have HS := Lib.hid hS
      have HO : Hid (OnlyB b w (w3.setCell ⟨w.heap.size, k, none⟩ (.int .u64 (l.getD (g + k) 0 : Nat)))) := Lib.hid ((hO.out.tr h2).setCell (p := ⟨w.heap.size, k, none⟩) (.inr (Nat.le_refl _)) _)
      have hlt3 := Blk.lt hB3
      clear h1 h2 hB3 hfl hS
      generalize l.getD (g + k) 0 = x at *
      go_wp2_with (fail)
      go_roundw
      case rel => exact ⟨k + 1, by go_num, by omega, H1, HS, HO⟩
      case measure => simp [intOf]; omega
    · obtain rfl : k = m := by omega
      go_wp2_with (fail)
      go_ret
      exact ⟨rfl, hT.out, by have h := hB.out; rw [wdP_all] at h; exact h, hO.out⟩
/-- A key and its value, as they are read at h: what is no text is empty. -/
def rdXp (l : List Nat) (h : Nat) : Xt := ⟨txtV (wdA l h 1) (fld (l.getD (h + 1) 0) 0 8 : Nat), txtV (wdA l (h + 2) 2) (fld (l.getD (h + 1) 0) 8 8 : Nat)⟩
theorem wdA_wd {l : List Nat} (hw : Wd l) (h m : Nat) : Wd (wdA l h m) := by
  intro k
  unfold wdA
  rw [List.getD_eq_getElem?_getD]
  by_cases hk : k < m
  · rw [List.getElem?_map, List.getElem?_range hk]
    exact hw (h + k)
  · rw [List.getElem?_eq_none (by simp; omega)]
    decide
set_option maxRecDepth 100000 in
set_option maxHeartbeats 1000000 in
theorem getXattr_calls (b : Nat) (l : List Nat) (g : Nat) (w : World) (h : Tr w b l (64 * g + 0)) (hl : l.length = 31) (hw : Wd l) (hg : g + 4 ≤ 31) :
    Calls Tryz.prog 103 #[.pointer (some ⟨b, 0, none⟩)] w fun e w' => e = .returned (.agg #[.string (rdXp l g).key, .string (rdXp l g).val]) ∧ Tr w' b l (64 * (g + 4) + 0) ∧ OnlyB b w w' := by
  obtain ⟨V, hV⟩ : ∃ V, V = w.alloc (.cells #[.string ⟨#[]⟩, .string ⟨#[]⟩] 52) := ⟨_, rfl⟩
  have S0 : Hid (Gst w V b l (64 * g + 0) w.heap.size 52 #[.string ⟨#[]⟩, .string ⟨#[]⟩]) := Lib.hid (by rw [hV]; exact Gst.start w _ _ h)
  have HW := Lib.hid hw
  clear h hw
  go_enter Tryz.func103, Tryz.ntmps103
  go_upto_region 1 with (fail)
  rw [← hV]
  clear hV
  go_wp2_with (fail)
  refine (getWords_calls b l g 1 1 V rfl S0.out.tr hl HW.out (by omega)).mono ?_
  rintro e w1 ⟨rfl, h1, hB, h2⟩
  have S1 := Lib.hid (S0.out.call h2 h1)
  have HB1 := Lib.hid hB
  have hVb : V.heap.size ≠ b := by have := S0.out.tr.lt; omega
  clear h1 h2 hB S0
  go_wp2_with (fail)
  refine (tget_calls b l (g + 1) 0 8 8 w1 rfl S1.out.tr hl HW.out (by omega) (by decide) (by decide)).mono ?_
  rintro e w2 ⟨rfl, h1, h2⟩
  have S2 := Lib.hid (S1.out.call h2 h1)
  have HB2 := Lib.hid ((h2.block _ HB1.out.lt hVb).trans HB1.out)
  have b0 := fld8 (l.getD (g + 1) 0) 0
  obtain ⟨q0, hq0⟩ : ∃ q0, fld (l.getD (g + 1) 0) 0 8 = q0 := ⟨_, rfl⟩
  rw [hq0] at b0 ⊢
  have Q0 := Lib.hid hq0
  clear h1 h2 S1 hq0 HB1
  go_wp2_with (fail)
  refine (tget_calls b l (g + 1) 8 8 8 w2 rfl S2.out.tr hl HW.out (by omega) (by decide) (by decide)).mono ?_
  rintro e w3 ⟨rfl, h1, h2⟩
  have S3 := Lib.hid (S2.out.call h2 h1)
  have HB3 := Lib.hid ((h2.block _ (lt_of_cells HB2.out) hVb).trans HB2.out)
  have b1 := fld8 (l.getD (g + 1) 0) 8
  obtain ⟨q1, hq1⟩ : ∃ q1, fld (l.getD (g + 1) 0) 8 8 = q1 := ⟨_, rfl⟩
  rw [hq1] at b1 ⊢
  have Q1 := Lib.hid hq1
  clear h1 h2 S2 hq1 HB2
  go_wp2_with (fail)
  refine (to_tr b l (64 * (g + 1) + 16) 64 (64 * (g + 2) + 0) 64 w3 rfl S3.out.tr hl (by omega) (by decide) (by omega)).mono ?_
  rintro e w4 ⟨rfl, h1, h2⟩
  have S4 := Lib.hid (S3.out.call h2 h1)
  have hB4 := (h2.block _ (lt_of_cells HB3.out) hVb).trans HB3.out
  have hr4 := Blk.row (l := wdA l g 1) hB4
  clear h1 h2 S3 HB3 hB4
  have hT1 := text_calls (some ⟨V.heap.size, 0, none⟩) (wdA l g 1) 1 (q0 : Nat) w4 (by omega) hr4 (wdA_wd HW.out g 1) (by rw [wdA_length]; decide)
  rw [wdA_length] at hT1
  clear hr4
  go_wp2_with (fail)
  refine hT1.mono ?_
  rintro e w5 ⟨rfl, hb5⟩
  have S5 := Lib.hid (S4.out.below hb5)
  clear hT1 hb5 S4
  go_wp2_with (fail)
  refine (getWords_calls b l (g + 2) 2 2 w5 rfl S5.out.tr hl HW.out (by omega)).mono ?_
  rintro e w6 ⟨rfl, h1, hB, h2⟩
  have S6 := Lib.hid (S5.out.call h2 h1)
  have hr6 := hB.row
  clear h1 h2 hB S5
  have hT2 := text_calls (some ⟨w5.heap.size, 0, none⟩) (wdA l (g + 2) 2) 2 (q1 : Nat) w6 (by omega) hr6 (wdA_wd HW.out (g + 2) 2) (by rw [wdA_length]; decide)
  rw [wdA_length] at hT2
  clear hr6
  go_wp2_with (fail)
  refine hT2.mono ?_
  rintro e w7 ⟨rfl, hb7⟩
  have S7 := Lib.hid (S6.out.below hb7)
  clear hT2 hb7 S6
  obtain ⟨t0, ht0⟩ : ∃ t0, txtV (wdA l g 1) (q0 : Nat) = t0 := ⟨_, rfl⟩
  obtain ⟨t1, ht1⟩ : ∃ t1, txtV (wdA l (g + 2) 2) (q1 : Nat) = t1 := ⟨_, rfl⟩
  rw [ht0, ht1]
  have HE : Hid (rdXp l g = ⟨t0, t1⟩) := Lib.hid (by rw [← ht0, ← ht1, ← Q0.out, ← Q1.out]; rfl)
  clear ht0 ht1
  have y0 : w7.cell? ⟨w.heap.size, 0, none⟩ = some (.string ⟨#[]⟩) := S7.out.cell 0
  have y1 : w7.cell? ⟨w.heap.size, 1, none⟩ = some (.string ⟨#[]⟩) := S7.out.cell 1
  have f0 := S7.out.frozen 0
  have f1 := S7.out.frozen 1
  go_wp2_with (fail)
  have S8 := (S7.out.store 0 (.string t0)).store 1 (.string t1)
  obtain ⟨U, hU⟩ : ∃ U, U = (w7.setCell ⟨w.heap.size, 0, none⟩ (.string t0)).setCell ⟨w.heap.size, 1, none⟩ (.string t1) := ⟨_, rfl⟩
  rw [← hU] at S8 ⊢
  clear hU y0 y1 f0 f1 S7
  have y0 : U.cell? ⟨w.heap.size, 0, none⟩ = some (.string t0) := S8.cell 0
  have y1 : U.cell? ⟨w.heap.size, 1, none⟩ = some (.string t1) := S8.cell 1
  exact bodyPost_ret (v := .agg #[.string t0, .string t1]) (by simp [results, Tryz.results103, go_sem, y0, y1]) rfl ⟨by rw [HE.out], S8.tr, S8.on⟩
end Go.Proofs.YtlejmpinfbmccaaGreatDoor
/- What is read off a tape: whole rows. -/
set_option linter.unusedSimpArgs false
set_option linter.unusedVariables false
namespace Go.Proofs.YtlejmpinfbmccaaGreatDoor
open Go.RowKit WordMath
theorem nmR_whoK (l : List Nat) (g k : Nat) : nmR (l.getD (g + k / 2) 0) (32 * (k % 2)) = whoK l g k := by
  unfold whoK
  generalize l.getD (g + k / 2) 0 = W
  generalize 32 * (k % 2) = n
  have e1 : fld W n 16 = fld W n 32 % 65536 := by
    unfold fld
    simp only [Nat.reducePow]
    omega
  have e2 : fld W (n + 16) 16 % 256 = fld W n 32 / 65536 % 256 := by
    unfold fld
    rw [Nat.pow_add, ← Nat.div_div_eq_div_mul]
    simp only [Nat.reducePow]
    omega
  simp only [nmR, e1, e2]
theorem whoL_le (l : List Nat) (g n k : Nat) : whoL l g (min k n) = (List.range (min (min k n) 4)).map (whoK l g) := rfl
theorem who_step {l : List Nat} {g n k : Nat} (hk : k < 4) (hn : k < n) : whoL l g (min (k + 1) n) = whoL l g (min k n) ++ [whoK l g k] := by
  unfold whoL
  rw [show min (min (k + 1) n) 4 = k + 1 by omega, show min (min k n) 4 = k by omega, List.range_succ, List.map_append]
  rfl
theorem who_stay {l : List Nat} {g n k : Nat} (hn : ¬ k < n) : whoL l g (min (k + 1) n) = whoL l g (min k n) := by
  rw [show min (k + 1) n = min k n by omega]
theorem whoL_length (l : List Nat) (g n : Nat) : (whoL l g n).length = min n 4 := by simp [whoL]
/-- The keys and values from g on: n of them, at most four. -/
def xaL (l : List Nat) (g n : Nat) : List Xt := (List.range (min n 4)).map fun k => rdXp l (g + 4 * k)
theorem xaL_step {l : List Nat} {g n k : Nat} (hk : k < 4) (hn : k < n) : xaL l g (min (k + 1) n) = xaL l g (min k n) ++ [rdXp l (g + 4 * k)] := by
  unfold xaL
  rw [show min (min (k + 1) n) 4 = k + 1 by omega, show min (min k n) 4 = k by omega, List.range_succ, List.map_append]
  rfl
theorem xaL_stay {l : List Nat} {g n k : Nat} (hn : ¬ k < n) : xaL l g (min (k + 1) n) = xaL l g (min k n) := by
  rw [show min (k + 1) n = min k n by omega]
theorem xaL_length (l : List Nat) (g n : Nat) : (xaL l g n).length = min n 4 := by simp [xaL]
theorem Mine.keep {w w' w'' : World} {A : Option Addr} {n c : Nat} {L : List Nm} {F : Nat → Prop} (h : Mine w w' A n c L) (ho : Only F w' w'') (hF : ∀ ad, A = some ad → ¬ F ad.block) : Mine w w'' A n c L :=
  ⟨h.1.keep fun ad e => ho.block _ (h.1.lt ad e) (hF ad e), h.2⟩
theorem MineX.keep {w w' w'' : World} {A : Option Addr} {n c : Nat} {L : List Xt} {F : Nat → Prop} (h : MineX w w' A n c L) (ho : Only F w' w'') (hF : ∀ ad, A = some ad → ¬ F ad.block) : MineX w w'' A n c L :=
  ⟨h.1.keep fun ad e => ho.block _ (h.1.lt ad e) (hF ad e), h.2⟩
theorem Tr.alloc {w : World} {b i : Nat} {l : List Nat} (h : Tr w b l i) (o : Obj) : Tr (w.alloc o) b l i := h.below ((Below.refl _ _).alloc (Nat.le_refl _) _)
theorem OnlyB.alloc {b : Nat} {a c : World} (h : OnlyB b a c) (o : Obj) : OnlyB b a (c.alloc o) := Only.alloc h o

set_option maxRecDepth 100000 in
set_option maxHeartbeats 1000000 in
theorem getAllN_calls (b : Nat) (l : List Nat) (g n : Nat) (w : World) (h : Tr w b l (64 * g + 0)) (hl : l.length = 31) (hw : Wd l) (hg : g + 2 ≤ 31) :
    Calls Tryz.prog 100 #[.int .i64 (n : Nat), .int .i64 4, .func (.func 101) #[.pointer (some ⟨b, 0, none⟩)] #[]] w fun e w' => ∃ A c, e = .returned (.slice A (min n 4 : Nat) c) ∧ Mine w w' A (min n 4) c (whoL l g n) ∧ Tr w' b l (64 * (g + 2) + 0) ∧ OnlyB b w w' := by
  obtain ⟨i0, hi0, hz0, hs0, hb0⟩ := info_parts named_info
  have HI := Lib.hid hi0
  have HZ := Lib.hid hz0
  have HS := Lib.hid hs0
  have HB := Lib.hid hb0
  have HT0 := Lib.hid h
  have HW := Lib.hid hw
  have hlt := h.lt
  clear hi0 hz0 hs0 hb0 h hw
  go_enter Tryz.func100, Tryz.ntmps100
  go_wp2_with (fail)
  go_loopw [7, 11] (fun v i wr => ∃ k : Nat, i = .int .i64 k ∧ k ≤ 4 ∧ (∃ A c, v = .slice A (min k n) c ∧ Hid (Mine w wr A (min k n) c (whoL l g (min k n)))) ∧ Hid (Tr wr b l (64 * g + 32 * k)) ∧ Hid (OnlyB b w wr)) (fun _ i _ => 4 - (intOf i).toNat)
  case atStart => exact ⟨0, rfl, by omega, ⟨none, 0, by rw [Nat.zero_min], Lib.hid (by rw [Nat.zero_min]; exact ⟨OwnR.nil _ _ _, fun ad h => by cases h⟩)⟩, Lib.hid HT0.out, Lib.hid (Only.refl _ _)⟩
  case round =>
    obtain ⟨k, rfl, hk, ⟨A, c, rfl, hM⟩, hT, hO⟩ := hrel
    by_cases hkm : k < 4
    · go_wp2_with (fail)
      refine (getNamed_calls b l (g + k / 2) (32 * (k % 2)) wr (by have h := hT.out; rw [show 64 * g + 32 * k = 64 * (g + k / 2) + 32 * (k % 2) by omega] at h; exact h) hl HW.out (by omega) (by omega)).mono ?_
      rintro e w3 ⟨rfl, h1, h2⟩
      have H1 : Hid (Tr w3 b l (64 * g + 32 * (k + 1))) := Lib.hid (by
        have e := h1
        rw [show 64 * (g + k / 2) + (32 * (k % 2) + 32) = 64 * g + 32 * (k + 1) by omega] at e
        exact e)
      have HM3 := Lib.hid (hM.out.keep h2 (fun ad e hF => by have := hM.out.2 ad e; omega))
      have HO3 := Lib.hid (hO.out.tr h2)
      rw [nmR_whoK]
      obtain ⟨p, hp⟩ : ∃ p, whoK l g k = p := ⟨_, rfl⟩
      rw [hp]
      have HP := Lib.hid hp
      clear hp
      clear h1 h2 hM hT hO
      by_cases hkn : k < n
      · have hci : decide ((k : Int) < (n : Int)) = true := by rw [decide_eq_true_eq]; omega
        have hkn' : (k : Int) < (n : Int) := by omega
        have hmin : min k n = k := by omega
        have hmin' : min (k + 1) n = k + 1 := by omega
        have hstep := who_step (l := l) (g := g) hkm hkn
        rw [hmin, hmin'] at hstep
        rw [hmin] at HM3 ⊢
        have HST := Lib.hid hstep
        have HMI := Lib.hid hmin'
        have HGE := Lib.hid HM3.out.2
        have HO2 : Hid (OwnR ((w3.alloc (.cells #[.int .u16 (p.id : Nat), .int .u8 (p.pm : Nat)] 54)).alloc (.cells #[.int .u16 (p.id : Nat), .int .u8 (p.pm : Nat)] 54)) 54 2 A k c (nv (whoL l g k))) := Lib.hid ((HM3.out.1.keep fun ad e => Below.heap_alloc _ _ _ (HM3.out.1.lt ad e)).keep fun ad e => Below.heap_alloc _ _ _ (by have := HM3.out.1.lt ad e; simp; omega))
        have HNW : Hid (∀ j u, ([.int .u16 (p.id : Nat), .int .u8 (p.pm : Nat)] : List Value)[j]? = some u → ((w3.alloc (.cells #[.int .u16 (p.id : Nat), .int .u8 (p.pm : Nat)] 54)).alloc (.cells #[.int .u16 (p.id : Nat), .int .u8 (p.pm : Nat)] 54)).cell? ((⟨w3.heap.size + 1, 0, none⟩ : Addr).add j) = some u) := Lib.hid (fun j u hu => by
          have h := heap_alloc_new (w3.alloc (.cells #[.int .u16 (p.id : Nat), .int .u8 (p.pm : Nat)] 54)) (.cells #[.int .u16 (p.id : Nat), .int .u8 (p.pm : Nat)] 54)
          rw [World.size_alloc] at h
          rw [add_zero_block, cell_of_row _ _ _ _ _ _ h]
          simpa using hu)
        have hone : ∀ u ∈ ([.int .u16 (p.id : Nat), .int .u8 (p.pm : Nat)] : List Value), u.oneCell' = true := by intro u hu; simp at hu; rcases hu with rfl | rfl <;> rfl
        clear hmin hmin' hstep
        go_wp2_with (at_builtin; refine wpList_append_r rfl (.tmp 19) (.tmp 21) 23 rfl 54 i0 _ 2 4 Tryz.underlying23 HI.out HZ.out HS.out HB.out rfl A k c (nv (whoL l g k)) rfl HO2.out ⟨w3.heap.size + 1, 0, none⟩ 1 1 [.int .u16 (p.id : Nat), .int .u8 (p.pm : Nat)] rfl rfl HNW.out hone (by decide) (by unfold maxLen; omega) (by omega) ?_; intro gA c1 w4 hA hgr hor)
        have hOn : Only (fun j => w.heap.size ≤ j) w3 w4 := (((Only.refl _ w3).alloc _).alloc _).grown hgr (fun j e => .inl (by
          cases A with
          | none => cases e
          | some ad => injection e with e; subst e; exact HGE.out ad rfl))
        have H1' := Lib.hid (H1.out.keep hOn (by omega))
        have HO' : Hid (OnlyB b w w4) := Lib.hid (Only.trans HO3.out hOn (fun i hi => .inr hi))
        have HM' : Hid (Mine w w4 (some ⟨gA, 0, none⟩) (k + 1) c1 (whoL l g (k + 1))) := Lib.hid ⟨by
          rw [HST.out, HP.out, nv_append]
          exact hA, fun ad e => by
            injection e with e
            subst e
            rcases hor with e | e
            · exact HGE.out _ e
            · have := HO3.out.size; simp at e; show w.heap.size ≤ gA; omega⟩
        clear hA hgr hor hOn
        go_roundw
        case rel => exact ⟨k + 1, by go_num, by omega, ⟨some ⟨gA, 0, none⟩, c1, by rw [HMI.out], by rw [HMI.out]; exact HM'⟩, H1', HO'⟩
        case measure => simp [intOf]; omega
      · have hkn' : ¬ (k : Int) < (n : Int) := by omega
        have hmin : min (k + 1) n = min k n := by omega
        have HMI := Lib.hid hmin
        have hal : Below w3.heap.size w3 (w3.alloc (.cells #[.int .u16 (p.id : Nat), .int .u8 (p.pm : Nat)] 54)) := (Below.refl _ _).alloc (Nat.le_refl _) _
        have H1' := Lib.hid (H1.out.below hal)
        have HO' : Hid (OnlyB b w (w3.alloc (.cells #[.int .u16 (p.id : Nat), .int .u8 (p.pm : Nat)] 54))) := Lib.hid (HO3.out.tr (Only.of_below _ hal))
        have HM' := Lib.hid (HM3.out.on hal)
        clear hmin hal
        generalize min k n = m at *
        go_wp2_with (fail)
        go_roundw
        case rel => exact ⟨k + 1, by go_num, by omega, ⟨A, c, by rw [HMI.out], by rw [HMI.out]; exact HM'⟩, H1', HO'⟩
        case measure => simp [intOf]; omega
    · obtain rfl : k = 4 := by omega
      have HE : Hid (whoL l g (min 4 n) = whoL l g n) := Lib.hid (by unfold whoL; rw [show min (min 4 n) 4 = min n 4 by omega])
      have HMI : Hid (min 4 n = min n 4) := Lib.hid (by omega)
      have HTT := hT.out
      rw [show 64 * g + 32 * 4 = 64 * (g + 2) + 0 by omega] at HTT
      have HT' := Lib.hid HTT
      clear HTT
      rw [HMI.out] at hM ⊢
      rw [← HMI.out, HE.out, HMI.out] at hM
      go_wp2_with (fail)
      go_ret
      exact ⟨A, c, rfl, hM.out, HT'.out, hO.out⟩

set_option maxRecDepth 100000 in
set_option maxHeartbeats 1000000 in
theorem getAllX_calls (b : Nat) (l : List Nat) (g n : Nat) (w : World) (h : Tr w b l (64 * g + 0)) (hl : l.length = 31) (hw : Wd l) (hg : g + 16 ≤ 31) :
    Calls Tryz.prog 102 #[.int .i64 (n : Nat), .int .i64 4, .func (.func 103) #[.pointer (some ⟨b, 0, none⟩)] #[]] w fun e w' => ∃ A c, e = .returned (.slice A (min n 4 : Nat) c) ∧ MineX w w' A (min n 4) c (xaL l g n) ∧ Tr w' b l (64 * (g + 16) + 0) ∧ OnlyB b w w' := by
  obtain ⟨i0, hi0, hz0, hs0, hb0⟩ := info_parts xattr_info
  have HI := Lib.hid hi0
  have HZ := Lib.hid hz0
  have HS := Lib.hid hs0
  have HB := Lib.hid hb0
  have HT0 := Lib.hid h
  have HW := Lib.hid hw
  have hlt := h.lt
  clear hi0 hz0 hs0 hb0 h hw
  go_enter Tryz.func102, Tryz.ntmps102
  go_wp2_with (fail)
  go_loopw [7, 11] (fun v i wr => ∃ k : Nat, i = .int .i64 k ∧ k ≤ 4 ∧ (∃ A c, v = .slice A (min k n) c ∧ Hid (MineX w wr A (min k n) c (xaL l g (min k n)))) ∧ Hid (Tr wr b l (64 * g + 256 * k)) ∧ Hid (OnlyB b w wr)) (fun _ i _ => 4 - (intOf i).toNat)
  case atStart => exact ⟨0, rfl, by omega, ⟨none, 0, by rw [Nat.zero_min], Lib.hid (by rw [Nat.zero_min]; exact ⟨OwnR.nil _ _ _, fun ad h => by cases h⟩)⟩, Lib.hid HT0.out, Lib.hid (Only.refl _ _)⟩
  case round =>
    obtain ⟨k, rfl, hk, ⟨A, c, rfl, hM⟩, hT, hO⟩ := hrel
    by_cases hkm : k < 4
    · go_wp2_with (fail)
      refine (getXattr_calls b l (g + 4 * k) wr (by have h := hT.out; rw [show 64 * g + 256 * k = 64 * (g + 4 * k) + 0 by omega] at h; exact h) hl HW.out (by omega)).mono ?_
      rintro e w3 ⟨rfl, h1, h2⟩
      have H1 : Hid (Tr w3 b l (64 * g + 256 * (k + 1))) := Lib.hid (by
        have e := h1
        rw [show 64 * (g + 4 * k + 4) + 0 = 64 * g + 256 * (k + 1) by omega] at e
        exact e)
      have HM3 := Lib.hid (hM.out.keep h2 (fun ad e hF => by have := hM.out.2 ad e; omega))
      have HO3 := Lib.hid (hO.out.tr h2)
      obtain ⟨p, hp⟩ : ∃ p, rdXp l (g + 4 * k) = p := ⟨_, rfl⟩
      rw [hp]
      have HP := Lib.hid hp
      clear hp
      clear h1 h2 hM hT hO
      by_cases hkn : k < n
      · have hci : decide ((k : Int) < (n : Int)) = true := by rw [decide_eq_true_eq]; omega
        have hkn' : (k : Int) < (n : Int) := by omega
        have hmin : min k n = k := by omega
        have hmin' : min (k + 1) n = k + 1 := by omega
        have hstep := xaL_step (l := l) (g := g) hkm hkn
        rw [hmin, hmin'] at hstep
        rw [hmin] at HM3 ⊢
        have HST := Lib.hid hstep
        have HMI := Lib.hid hmin'
        have HGE := Lib.hid HM3.out.2
        have HO2 : Hid (OwnR ((w3.alloc (.cells #[.string p.key, .string p.val] 52)).alloc (.cells #[.string p.key, .string p.val] 52)) 52 2 A k c (xv (xaL l g k))) := Lib.hid ((HM3.out.1.keep fun ad e => Below.heap_alloc _ _ _ (HM3.out.1.lt ad e)).keep fun ad e => Below.heap_alloc _ _ _ (by have := HM3.out.1.lt ad e; simp; omega))
        have HNW : Hid (∀ j u, ([.string p.key, .string p.val] : List Value)[j]? = some u → ((w3.alloc (.cells #[.string p.key, .string p.val] 52)).alloc (.cells #[.string p.key, .string p.val] 52)).cell? ((⟨w3.heap.size + 1, 0, none⟩ : Addr).add j) = some u) := Lib.hid (fun j u hu => by
          have h := heap_alloc_new (w3.alloc (.cells #[.string p.key, .string p.val] 52)) (.cells #[.string p.key, .string p.val] 52)
          rw [World.size_alloc] at h
          rw [add_zero_block, cell_of_row _ _ _ _ _ _ h]
          simpa using hu)
        have hone : ∀ u ∈ ([.string p.key, .string p.val] : List Value), u.oneCell' = true := by intro u hu; simp at hu; rcases hu with rfl | rfl <;> rfl
        clear hmin hmin' hstep
        go_wp2_with (at_builtin; refine wpList_append_r rfl (.tmp 19) (.tmp 21) 26 rfl 52 i0 _ 2 32 Tryz.underlying26 HI.out HZ.out HS.out HB.out rfl A k c (xv (xaL l g k)) rfl HO2.out ⟨w3.heap.size + 1, 0, none⟩ 1 1 [.string p.key, .string p.val] rfl rfl HNW.out hone (by decide) (by unfold maxLen; omega) (by omega) ?_; intro gA c1 w4 hA hgr hor)
        have hOn : Only (fun j => w.heap.size ≤ j) w3 w4 := (((Only.refl _ w3).alloc _).alloc _).grown hgr (fun j e => .inl (by
          cases A with
          | none => cases e
          | some ad => injection e with e; subst e; exact HGE.out ad rfl))
        have H1' := Lib.hid (H1.out.keep hOn (by omega))
        have HO' : Hid (OnlyB b w w4) := Lib.hid (Only.trans HO3.out hOn (fun i hi => .inr hi))
        have HM' : Hid (MineX w w4 (some ⟨gA, 0, none⟩) (k + 1) c1 (xaL l g (k + 1))) := Lib.hid ⟨by
          rw [HST.out, HP.out, xv_append]
          exact hA, fun ad e => by
            injection e with e
            subst e
            rcases hor with e | e
            · exact HGE.out _ e
            · have := HO3.out.size; simp at e; show w.heap.size ≤ gA; omega⟩
        clear hA hgr hor hOn
        go_roundw
        case rel => exact ⟨k + 1, by go_num, by omega, ⟨some ⟨gA, 0, none⟩, c1, by rw [HMI.out], by rw [HMI.out]; exact HM'⟩, H1', HO'⟩
        case measure => simp [intOf]; omega
      · have hkn' : ¬ (k : Int) < (n : Int) := by omega
        have hmin : min (k + 1) n = min k n := by omega
        have HMI := Lib.hid hmin
        have hal : Below w3.heap.size w3 (w3.alloc (.cells #[.string p.key, .string p.val] 52)) := (Below.refl _ _).alloc (Nat.le_refl _) _
        have H1' := Lib.hid (H1.out.below hal)
        have HO' : Hid (OnlyB b w (w3.alloc (.cells #[.string p.key, .string p.val] 52))) := Lib.hid (HO3.out.tr (Only.of_below _ hal))
        have HM' := Lib.hid (HM3.out.on hal)
        clear hmin hal
        generalize min k n = m at *
        go_wp2_with (fail)
        go_roundw
        case rel => exact ⟨k + 1, by go_num, by omega, ⟨A, c, by rw [HMI.out], by rw [HMI.out]; exact HM'⟩, H1', HO'⟩
        case measure => simp [intOf]; omega
    · obtain rfl : k = 4 := by omega
      have HE : Hid (xaL l g (min 4 n) = xaL l g n) := Lib.hid (by unfold xaL; rw [show min (min 4 n) 4 = min n 4 by omega])
      have HMI : Hid (min 4 n = min n 4) := Lib.hid (by omega)
      have HTT := hT.out
      rw [show 64 * g + 256 * 4 = 64 * (g + 16) + 0 by omega] at HTT
      have HT' := Lib.hid HTT
      clear HTT
      rw [HMI.out] at hM ⊢
      rw [← HMI.out, HE.out, HMI.out] at hM
      go_wp2_with (fail)
      go_ret
      exact ⟨A, c, rfl, hM.out, HT'.out, hO.out⟩
end Go.Proofs.YtlejmpinfbmccaaGreatDoor
