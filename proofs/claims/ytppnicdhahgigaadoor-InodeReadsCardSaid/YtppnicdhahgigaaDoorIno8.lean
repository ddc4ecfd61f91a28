/- What Decode hands back. -/
import Derived.Test.YtppnicdhahgigaaDoorIno7
import Derived.Laws.Cover3
namespace Go.Proofs.YtppnicdhahgigaaDoor
open Go.RowKit WordMath SumMath
/-- Nothing. -/
abbrev zI : Ino := ⟨0, 0, 0, 0, 0, 0, 0, 0, 0, 0, 0, 0, 0⟩
instance (P I B : Int) : Decidable (GOK P I B) := by unfold GOK; infer_instance
/-- Where, and how, words are no record. -/
def decBad (l : List Nat) (P I B : Int) : Option (Nat × Int) :=
  if ¬ GOK P I B then some (0, 2) else if l.length ≠ 8 then some (0, 7) else if ¬ isSealed l then some (7, 7)
  else if fst7 (fitL l I B) = 7 then none else some (fst7 (fitL l I B), 7)
def decI (l : List Nat) (P I B : Int) : Ino := match decBad l P I B with
  | none => rdL l
  | some _ => zI
set_option maxRecDepth 100000 in
set_option maxHeartbeats 1000000 in
theorem dec_geom (A : Option Addr) (n c : Nat) (P I B : Int) (w : World) (hg : ¬ GOK P I B) :
    Calls Tryd.prog 15 #[.slice A n c, gv P I B] w fun e w' => e = .returned (.tuple #[zI.v, errV (some (0, 2))]) ∧ Below w.heap.size w w' := by
  have HG := Lib.hid hg
  clear hg
  go_enter Tryd.func15, Tryd.ntmps15
  go_wp2_with (fail)
  refine (check_bad P I B _ HG.out).mono ?_
  rintro e w1 ⟨rfl, hb1⟩
  have bw1 := Below.trans (((Below.refl w.heap.size w).alloc (Nat.le_refl _) (.cells #[.int .i64 P, .int .i64 I, .int .i64 B] 27)).alloc (by simp) (.cells (Ino.c zI) 25)) (hb1.mono (by simp <;> omega))
  have iz1 : Ib w1 (w.heap.size + 1) zI := by
    have h := Ib.new (w.alloc (.cells #[.int .i64 P, .int .i64 I, .int .i64 B] 27)) zI
    rw [World.size_alloc] at h
    exact h.below hb1 (by simp <;> omega)
  have hs1 := bw1.size
  clear hb1
  obtain ⟨z0, z1, z2, z3, z4, z5, z6, z7, z8, z9, z10, z11, z12⟩ := iz1.cells
  have s0 := iz1.same 0 (.int .u8 0) rfl
  have s1 := iz1.same 1 (.int .i64 0) rfl
  have s2 := iz1.same 2 (.int .u32 0) rfl
  have s3 := iz1.same 3 (.int .i64 0) rfl
  have s4 := iz1.same 4 (.int .i64 0) rfl
  have s5 := iz1.same 5 (.int .i64 0) rfl
  have s6 := iz1.same 6 (.int .i64 0) rfl
  have s7 := iz1.same 7 (.int .i64 0) rfl
  have s8 := iz1.same 8 (.int .i64 0) rfl
  have s9 := iz1.same 9 (.int .i64 0) rfl
  have s10 := iz1.same 10 (.int .i64 0) rfl
  have s11 := iz1.same 11 (.int .i64 0) rfl
  have s12 := iz1.same 12 (.int .i64 0) rfl
  have fz := iz1.frozen
  have hlz := iz1.lt
  go_wp2_with (fail)
  refine (refuse_calls 0 2 _).mono ?_
  rintro e wr ⟨rfl, rfl⟩
  go_wp2_with (fail)
  exact bodyPost_ret (v := .tuple #[zI.v, errV (some (0, 2))]) (by simp [results, Tryd.results15, go_sem, z0, z1, z2, z3, z4, z5, z6, z7, z8, z9, z10, z11, z12]) rfl ⟨rfl, bw1⟩
set_option maxRecDepth 100000 in
set_option maxHeartbeats 1000000 in
theorem dec_len (A : Option Addr) (n c : Nat) (P I B : Int) (w : World) (hg : GOK P I B) (hn : n ≠ 8) :
    Calls Tryd.prog 15 #[.slice A n c, gv P I B] w fun e w' => e = .returned (.tuple #[zI.v, errV (some (0, 7))]) ∧ Below w.heap.size w w' := by
  have HG := Lib.hid hg
  have hne : ((n : Int) == 8) = false := by rw [beq_eq_false_iff_ne]; omega
  clear hg hn
  go_enter Tryd.func15, Tryd.ntmps15
  go_wp2_with (fail)
  refine (check_ok P I B _ HG.out).mono ?_
  rintro e w1 ⟨rfl, hb1⟩
  have bw1 := Below.trans (((Below.refl w.heap.size w).alloc (Nat.le_refl _) (.cells #[.int .i64 P, .int .i64 I, .int .i64 B] 27)).alloc (by simp) (.cells (Ino.c zI) 25)) (hb1.mono (by simp <;> omega))
  have iz1 : Ib w1 (w.heap.size + 1) zI := by
    have h := Ib.new (w.alloc (.cells #[.int .i64 P, .int .i64 I, .int .i64 B] 27)) zI
    rw [World.size_alloc] at h
    exact h.below hb1 (by simp <;> omega)
  have hs1 := bw1.size
  clear hb1
  obtain ⟨z0, z1, z2, z3, z4, z5, z6, z7, z8, z9, z10, z11, z12⟩ := iz1.cells
  have s0 := iz1.same 0 (.int .u8 0) rfl
  have s1 := iz1.same 1 (.int .i64 0) rfl
  have s2 := iz1.same 2 (.int .u32 0) rfl
  have s3 := iz1.same 3 (.int .i64 0) rfl
  have s4 := iz1.same 4 (.int .i64 0) rfl
  have s5 := iz1.same 5 (.int .i64 0) rfl
  have s6 := iz1.same 6 (.int .i64 0) rfl
  have s7 := iz1.same 7 (.int .i64 0) rfl
  have s8 := iz1.same 8 (.int .i64 0) rfl
  have s9 := iz1.same 9 (.int .i64 0) rfl
  have s10 := iz1.same 10 (.int .i64 0) rfl
  have s11 := iz1.same 11 (.int .i64 0) rfl
  have s12 := iz1.same 12 (.int .i64 0) rfl
  have fz := iz1.frozen
  have hlz := iz1.lt
  go_wp2_with (fail)
  refine (refuse_calls 0 7 _).mono ?_
  rintro e wr ⟨rfl, rfl⟩
  go_wp2_with (fail)
  exact bodyPost_ret (v := .tuple #[zI.v, errV (some (0, 7))]) (by simp [results, Tryd.results15, go_sem, z0, z1, z2, z3, z4, z5, z6, z7, z8, z9, z10, z11, z12]) rfl ⟨rfl, bw1⟩
theorem open8 (A : Option Addr) (l : List Nat) (c : Nat) (w : World) (h8 : l.length = 8) (hr : Row w A l) (hl : Wd l) (hcap : 8 ≤ c) (hT : TabAt w) :
    Calls Tryd.prog 26 #[.slice A 8 c] w fun e w' => ∃ v, e = .returned (.tuple #[v, .bool (openB l)]) ∧ Below w.heap.size w w' := by
  have h := open_calls A l c w hr hl (by omega) (by omega) hT
  rw [h8] at h
  exact h.mono fun _ _ ⟨A', c', h1, _, _, h4, _⟩ => ⟨_, h1, h4⟩
set_option maxRecDepth 100000 in
set_option maxHeartbeats 1000000 in
theorem dec_seal (A : Option Addr) (l : List Nat) (c : Nat) (P I B : Int) (w : World) (hg : GOK P I B) (h8 : l.length = 8) (hr : Row w A l) (hl : Wd l) (hcap : 8 ≤ c) (hT : TabAt w) (ho : openB l = false) :
    Calls Tryd.prog 15 #[.slice A 8 c, gv P I B] w fun e w' => e = .returned (.tuple #[zI.v, errV (some (7, 7))]) ∧ Below w.heap.size w w' := by
  have HG := Lib.hid hg
  have HR := Lib.hid hr
  have HL := Lib.hid hl
  have HT := Lib.hid hT
  clear hg hr hl hT
  have hob := Lib.hid ho
  clear ho
  go_enter Tryd.func15, Tryd.ntmps15
  go_wp2_with (fail)
  refine (check_ok P I B _ HG.out).mono ?_
  rintro e w1 ⟨rfl, hb1⟩
  have bw1 := Below.trans (((Below.refl w.heap.size w).alloc (Nat.le_refl _) (.cells #[.int .i64 P, .int .i64 I, .int .i64 B] 27)).alloc (by simp) (.cells (Ino.c zI) 25)) (hb1.mono (by simp <;> omega))
  have iz1 : Ib w1 (w.heap.size + 1) zI := by
    have h := Ib.new (w.alloc (.cells #[.int .i64 P, .int .i64 I, .int .i64 B] 27)) zI
    rw [World.size_alloc] at h
    exact h.below hb1 (by simp <;> omega)
  have hs1 := bw1.size
  have hO := Lib.hid (open8 A l c w1 h8 (HR.out.below bw1) HL.out hcap (HT.out.below bw1))
  clear hb1
  go_wp2_with (fail)
  refine hO.out.mono ?_
  rintro e w2 ⟨vo, rfl, hb2⟩
  rw [hob.out]
  have bw2 := bw1.trans (hb2.mono hs1)
  have iz2 := iz1.below hb2 iz1.lt
  clear hO iz1
  obtain ⟨z0, z1, z2, z3, z4, z5, z6, z7, z8, z9, z10, z11, z12⟩ := iz2.cells
  have s0 := iz2.same 0 (.int .u8 0) rfl
  have s1 := iz2.same 1 (.int .i64 0) rfl
  have s2 := iz2.same 2 (.int .u32 0) rfl
  have s3 := iz2.same 3 (.int .i64 0) rfl
  have s4 := iz2.same 4 (.int .i64 0) rfl
  have s5 := iz2.same 5 (.int .i64 0) rfl
  have s6 := iz2.same 6 (.int .i64 0) rfl
  have s7 := iz2.same 7 (.int .i64 0) rfl
  have s8 := iz2.same 8 (.int .i64 0) rfl
  have s9 := iz2.same 9 (.int .i64 0) rfl
  have s10 := iz2.same 10 (.int .i64 0) rfl
  have s11 := iz2.same 11 (.int .i64 0) rfl
  have s12 := iz2.same 12 (.int .i64 0) rfl
  have fz := iz2.frozen
  have hlz := iz2.lt
  clear hb2
  go_wp2_with (fail)
  refine (refuse_calls 7 7 _).mono ?_
  rintro e wr ⟨rfl, rfl⟩
  go_wp2_with (fail)
  exact bodyPost_ret (v := .tuple #[zI.v, errV (some (7, 7))]) (by simp [results, Tryd.results15, go_sem, z0, z1, z2, z3, z4, z5, z6, z7, z8, z9, z10, z11, z12]) rfl ⟨rfl, bw2⟩
theorem spot_none {w : World} {b off : Nat} {sp : Option Nat} {v : Value} (h : w.cell? ⟨b, off, sp⟩ = some v) : sp = none := by
  cases sp with
  | none => rfl
  | some k =>
    exfalso
    unfold World.cell? at h
    split at h
    · simp at h
    · cases h
set_option maxRecDepth 100000 in
set_option maxHeartbeats 2000000 in
theorem dec_rest (A : Option Addr) (v0 v1 v2 v3 v4 v5 v6 v7 : Nat) (c : Nat) (P I B : Int) (w : World) (r : Nat) (x : Ino) (hx : rdL [v0, v1, v2, v3, v4, v5, v6, v7] = x) (hrr : fst7 (fitL [v0, v1, v2, v3, v4, v5, v6, v7] I B) = r) (hg : GOK P I B) (hr : Row w A [v0, v1, v2, v3, v4, v5, v6, v7]) (hl : Wd [v0, v1, v2, v3, v4, v5, v6, v7]) (hcap : 8 ≤ c) (hT : TabAt w) (ho : openB [v0, v1, v2, v3, v4, v5, v6, v7] = true) :
    Calls Tryd.prog 15 #[.slice A 8 c, gv P I B] w fun e w' => e = .returned (.tuple #[(if r = 7 then x else zI).v, errV (if r = 7 then none else some (r, 7))]) ∧ Below w.heap.size w w' := by
  have hR : ∀ W, Calls Tryd.prog 27 #[.agg #[.int .u64 (v0 : Nat), .int .u64 (v1 : Nat), .int .u64 (v2 : Nat), .int .u64 (v3 : Nat), .int .u64 (v4 : Nat), .int .u64 (v5 : Nat), .int .u64 (v6 : Nat), .int .u64 (v7 : Nat)]] W fun e w' => e = .returned x.v ∧ Below W.heap.size W w' := fun W => by rw [← hx]; exact read_calls [v0, v1, v2, v3, v4, v5, v6, v7] W hl rfl
  have hW : ∀ W, Calls Tryd.prog 28 #[.agg #[.int .u64 (v0 : Nat), .int .u64 (v1 : Nat), .int .u64 (v2 : Nat), .int .u64 (v3 : Nat), .int .u64 (v4 : Nat), .int .u64 (v5 : Nat), .int .u64 (v6 : Nat), .int .u64 (v7 : Nat)], x.v, gv P I B] W fun e w' => e = .returned (.int .i64 (r : Nat)) ∧ Below W.heap.size W w' := fun W => by
    have h := wrong_calls [v0, v1, v2, v3, v4, v5, v6, v7] x P I B W rfl (by rw [← hx]; exact rdL_small _)
    refine Calls.mono h ?_
    rintro e w' ⟨r', h1, h2, h3⟩
    rw [← hx] at h2
    have := wrong_is [v0, v1, v2, v3, v4, v5, v6, v7] hl I B hg.2.1 hg.2.2 r' h2
    rw [hrr] at this
    subst this
    exact ⟨h1, h3⟩
  obtain ⟨v, hv⟩ : ∃ v, v = (if r = 7 then x else zI) := ⟨_, rfl⟩
  obtain ⟨er, her⟩ : ∃ er, er = errV (if r = 7 then none else some (r, 7)) := ⟨_, rfl⟩
  rw [← hv, ← her]
  have HV := Lib.hid hv
  have HER := Lib.hid her
  have h8 : ([v0, v1, v2, v3, v4, v5, v6, v7] : List Nat).length = 8 := rfl
  generalize hll : [v0, v1, v2, v3, v4, v5, v6, v7] = l at *
  have HLL := Lib.hid hll
  clear hx hrr hll hv her
  have HG := Lib.hid hg
  have HR := Lib.hid hr
  have HL := Lib.hid hl
  have HT := Lib.hid hT
  clear hg hr hl hT
  have hob := Lib.hid ho
  clear ho
  go_enter Tryd.func15, Tryd.ntmps15
  go_wp2_with (fail)
  refine (check_ok P I B _ HG.out).mono ?_
  rintro e w1 ⟨rfl, hb1⟩
  have bw1 := Below.trans (((Below.refl w.heap.size w).alloc (Nat.le_refl _) (.cells #[.int .i64 P, .int .i64 I, .int .i64 B] 27)).alloc (by simp) (.cells (Ino.c zI) 25)) (hb1.mono (by simp <;> omega))
  have iz1 : Ib w1 (w.heap.size + 1) zI := by
    have h := Ib.new (w.alloc (.cells #[.int .i64 P, .int .i64 I, .int .i64 B] 27)) zI
    rw [World.size_alloc] at h
    exact h.below hb1 (by simp <;> omega)
  have hs1 := bw1.size
  have hg1 := alloc_later (w0 := w) (w1 := w1) (o := .cells #[.int .i64 P, .int .i64 I, .int .i64 B] 27) (Below.trans ((Below.refl _ _).alloc (Nat.le_refl _) _) (hb1.mono (by simp)))
  have hO := Lib.hid (open8 A l c w1 h8 (HR.out.below bw1) HL.out hcap (HT.out.below bw1))
  clear hb1
  go_wp2_with (fail)
  refine hO.out.mono ?_
  rintro e w2 ⟨vo, rfl, hb2⟩
  rw [hob.out]
  have bw2 := bw1.trans (hb2.mono hs1)
  have iz2 := iz1.below hb2 iz1.lt
  clear hO iz1
  have hg2 := (hb2.block w.heap.size (by have := lt_of_cells hg1; omega)).trans hg1
  have hr2 := HR.out.below bw2
  rw [← HLL.out] at hr2
  obtain ⟨⟨b, off, sp⟩, rfl, hbl, hc⟩ := hr2 (by simp)
  have c0 : w2.cell? ⟨b, off, sp⟩ = some (.int .u64 (v0 : Nat)) := hc 0 (by simp)
  obtain rfl := spot_none c0
  have c1 : w2.cell? ⟨b, off + 1, none⟩ = some (.int .u64 (v1 : Nat)) := hc 1 (by simp)
  have c2 : w2.cell? ⟨b, off + 2, none⟩ = some (.int .u64 (v2 : Nat)) := hc 2 (by simp)
  have c3 : w2.cell? ⟨b, off + 3, none⟩ = some (.int .u64 (v3 : Nat)) := hc 3 (by simp)
  have c4 : w2.cell? ⟨b, off + 4, none⟩ = some (.int .u64 (v4 : Nat)) := hc 4 (by simp)
  have c5 : w2.cell? ⟨b, off + 5, none⟩ = some (.int .u64 (v5 : Nat)) := hc 5 (by simp)
  have c6 : w2.cell? ⟨b, off + 6, none⟩ = some (.int .u64 (v6 : Nat)) := hc 6 (by simp)
  have c7 : w2.cell? ⟨b, off + 7, none⟩ = some (.int .u64 (v7 : Nat)) := hc 7 (by simp)
  have hA := fun W : World => run_arrayAt (P := Tryd.prog) (w := W) 48 44 8 (some ⟨b, off, none⟩) 8 c Tryd.underlying48 (Nat.le_refl 8)
  have hs2 := bw2.size
  have hlt2 := iz2.lt
  clear hc hb2 hr2 HR HL HT hob hg1 HG
  go_wp2_with (fail)
  refine (hR _).mono ?_
  clear hR hA c0 c1 c2 c3 c4 c5 c6 c7
  rintro e w3 ⟨rfl, hb3⟩
  have bb := Below.trans ((Below.refl w2.heap.size w2).alloc (Nat.le_refl _) (.cells #[.int .u64 (v0 : Nat), .int .u64 (v1 : Nat), .int .u64 (v2 : Nat), .int .u64 (v3 : Nat), .int .u64 (v4 : Nat), .int .u64 (v5 : Nat), .int .u64 (v6 : Nat), .int .u64 (v7 : Nat)] 48)) (hb3.mono (by simp))
  have hi3 : Blk 48 w3 w2.heap.size [v0, v1, v2, v3, v4, v5, v6, v7] := by
    have h : Blk 48 (w2.alloc (.cells #[.int .u64 (v0 : Nat), .int .u64 (v1 : Nat), .int .u64 (v2 : Nat), .int .u64 (v3 : Nat), .int .u64 (v4 : Nat), .int .u64 (v5 : Nat), .int .u64 (v6 : Nat), .int .u64 (v7 : Nat)] 48)) w2.heap.size [v0, v1, v2, v3, v4, v5, v6, v7] := heap_alloc_new w2 _
    exact h.below hb3 (by simp)
  have bw3 := bw2.trans (bb.mono hs2)
  have iz3 := iz2.below bb hlt2
  have hg3 := (bb.block w.heap.size (by have := lt_of_cells hg2; omega)).trans hg2
  obtain ⟨g0, g1, g2⟩ := three_cells hg3
  obtain ⟨d0, d1, d2, d3, d4, d5, d6, d7⟩ := hi3.cells8
  have hl0 := lt_of_cells hg3
  have hl1 := hi3.lt
  have hl2 := iz3.lt
  clear hb3 bb hi3 bw2 iz2 hg2 hs2 hlt2
  go_wp2_with (fail)
  refine (hW _).mono ?_
  clear hW g0 g1 g2 d0 d1 d2 d3 d4 d5 d6 d7
  rintro e w4 ⟨rfl, hb4⟩
  have bb := Below.trans ((Below.refl w3.heap.size w3).alloc (Nat.le_refl _) (.cells x.c 25)) (hb4.mono (by simp))
  have ix4 : Ib w4 w3.heap.size x := (Ib.new w3 x).below hb4 (by simp)
  have iz4 := iz3.below bb hl2
  have bw4 := bw3.trans (bb.mono (by omega))
  clear hb4 bb hg3 bw3 iz3 hl0 hl1
  by_cases hr7 : r = 7
  · have ev := HV.out
    rw [if_pos hr7] at ev
    have ee := HER.out
    rw [if_pos hr7] at ee
    subst ev ee hr7
    go_upto_region 14 with (fail)
    refine wp_region_lit ?_
    refine wpList_load_row rfl 25 (.tmp 10) rfl w3.heap.size rfl 25 _ (0, 0) _ ix4 Tryd.underlying25 rfl (by kernel_rfl) ?_
    refine wpList_store_row rfl 25 (.tmp 4) (.tmp 47) rfl (w.heap.size + 1) _ rfl rfl 25 _ iz4 (by kernel_rfl) rfl (Ino.one _) ?_
    have q8 : Ib (w4.setRow (w.heap.size + 1) v.c) (w.heap.size + 1) v := setRow_heap w4 (w.heap.size + 1) _ v.c 25 (0, 0) iz4
    have q9 := below_setRow bw4 (show w.heap.size ≤ w.heap.size + 1 by omega) v.c
    generalize w4.setRow (w.heap.size + 1) v.c = W8 at *
    obtain ⟨y0, y1, y2, y3, y4, y5, y6, y7, y8, y9, y10, y11, y12⟩ := q8.cells
    clear ix4 iz4 bw4
    go_wp2_with (fail)
    exact bodyPost_ret (v := .tuple #[v.v, .nilIface]) (by simp [results, Tryd.results15, go_sem, y0, y1, y2, y3, y4, y5, y6, y7, y8, y9, y10, y11, y12]) rfl ⟨rfl, q9⟩
  · have hne : ((r : Int) == 7) = false := by rw [beq_eq_false_iff_ne]; omega
    have ev := HV.out
    rw [if_neg hr7] at ev
    have ee := HER.out
    rw [if_neg hr7] at ee
    subst ev ee
    clear HV HER hr7 ix4
    obtain ⟨z0, z1, z2, z3, z4, z5, z6, z7, z8, z9, z10, z11, z12⟩ := iz4.cells
    have s0 := iz4.same 0 (.int .u8 0) rfl
    have s1 := iz4.same 1 (.int .i64 0) rfl
    have s2 := iz4.same 2 (.int .u32 0) rfl
    have s3 := iz4.same 3 (.int .i64 0) rfl
    have s4 := iz4.same 4 (.int .i64 0) rfl
    have s5 := iz4.same 5 (.int .i64 0) rfl
    have s6 := iz4.same 6 (.int .i64 0) rfl
    have s7 := iz4.same 7 (.int .i64 0) rfl
    have s8 := iz4.same 8 (.int .i64 0) rfl
    have s9 := iz4.same 9 (.int .i64 0) rfl
    have s10 := iz4.same 10 (.int .i64 0) rfl
    have s11 := iz4.same 11 (.int .i64 0) rfl
    have s12 := iz4.same 12 (.int .i64 0) rfl
    have fz := iz4.frozen
    have hlz := iz4.lt
    go_wp2_with (fail)
    refine (refuse_calls r 7 _).mono ?_
    rintro e wr ⟨rfl, rfl⟩
    go_wp2_with (fail)
    exact bodyPost_ret (v := .tuple #[zI.v, errV (some (r, 7))]) (by simp [results, Tryd.results15, go_sem, z0, z1, z2, z3, z4, z5, z6, z7, z8, z9, z10, z11, z12]) rfl ⟨rfl, bw4⟩
/-- What Decode hands back. -/
theorem dec_calls (A : Option Addr) (l : List Nat) (c : Nat) (P I B : Int) (w : World) (hr : Row w A l) (hl : Wd l) (hcap : l.length ≤ c) (hT : TabAt w) :
    Calls Tryd.prog 15 #[.slice A l.length c, gv P I B] w fun e w' => e = .returned (.tuple #[(decI l P I B).v, errV (decBad l P I B)]) ∧ Below w.heap.size w w' := by
  by_cases hg : GOK P I B
  · by_cases h8 : l.length = 8
    · by_cases ho : isSealed l
      · have e1 : decBad l P I B = if fst7 (fitL l I B) = 7 then none else some (fst7 (fitL l I B), 7) := by
          unfold decBad; rw [if_neg (by simpa using hg), if_neg (by simpa using h8), if_neg (by simpa using ho)]
        have e2 : decI l P I B = if fst7 (fitL l I B) = 7 then rdL l else zI := by
          unfold decI; rw [e1]; split <;> rename_i h <;> split at h <;> first | rfl | cases h
          all_goals simp_all
        rw [e1, e2, h8]
        have hl8 := list8 h8
        have key := dec_rest A (l.getD 0 0) (l.getD 1 0) (l.getD 2 0) (l.getD 3 0) (l.getD 4 0) (l.getD 5 0) (l.getD 6 0) (l.getD 7 0) c P I B w (fst7 (fitL l I B)) (rdL l)
        rw [← hl8] at key
        exact key rfl rfl hg hr hl (by omega) hT (openB_yes ho)
      · have e1 : decBad l P I B = some (7, 7) := by
          unfold decBad; rw [if_neg (by simpa using hg), if_neg (by simpa using h8), if_pos ho]
        have e2 : decI l P I B = zI := by unfold decI; rw [e1]
        rw [e1, e2, h8]
        exact dec_seal A l c P I B w hg h8 hr hl (by omega) hT (openB_no ho)
    · have e1 : decBad l P I B = some (0, 7) := by
        unfold decBad; rw [if_neg (by simpa using hg), if_pos h8]
      have e2 : decI l P I B = zI := by unfold decI; rw [e1]
      rw [e1, e2]
      exact dec_len A l.length c P I B w hg h8
  · have e1 : decBad l P I B = some (0, 2) := by unfold decBad; rw [if_pos hg]
    have e2 : decI l P I B = zI := by unfold decI; rw [e1]
    rw [e1, e2]
    exact dec_geom A l.length c P I B w hg
end Go.Proofs.YtppnicdhahgigaaDoor
