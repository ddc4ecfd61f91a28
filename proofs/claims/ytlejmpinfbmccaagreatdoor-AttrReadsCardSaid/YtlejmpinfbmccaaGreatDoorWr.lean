/- The words of attributes, written. -/
import Derived.Test.YtlejmpinfbmccaaGreatDoorTapeW
import Derived.Test.YtlejmpinfbmccaaGreatDoorAv
set_option linter.unusedSimpArgs false
set_option linter.unusedVariables false
set_option linter.unusedSimpArgs false
set_option linter.unusedVariables false
namespace Go.Proofs.YtlejmpinfbmccaaGreatDoor
open Go.RowKit WordMath
/-- The world of the call: the attributes' block, the result's, the tape's. -/
structure Wst (w wr : World) (x : At) (p : ALie) (L : List Nat) (P n : Nat) : Prop where
  bt : Bt wr w.heap.size x p
  zr : wr.heap[w.heap.size + 1]? = some (.cells (wv (List.replicate 31 0)).toArray 68 (0, 0))
  tb : Tb wr (w.heap.size + 1 + 1) L P n
  be : Below w.heap.size w wr
theorem Wst.step {w wr w' : World} {x : At} {p : ALie} {L L' : List Nat} {P n P' n' : Nat} (h : Wst w wr x p L P n) (ho : OnlyB (w.heap.size + 1 + 1) wr w') (ht : Tb w' (w.heap.size + 1 + 1) L' P' n') : Wst w w' x p L' P' n' :=
  ⟨h.bt.keep ho (by omega), (ho.block _ (lt_of_cells h.zr) (by omega)).trans h.zr, ht, h.be.trans (ho.below h.be.size (fun i hi => by omega))⟩
theorem Wst.on {w wr w' : World} {x : At} {p : ALie} {L : List Nat} {P n : Nat} (h : Wst w wr x p L P n) (hb : Below wr.heap.size wr w') : Wst w w' x p L P n :=
  ⟨h.bt.on hb, (hb.block _ (lt_of_cells h.zr)).trans h.zr, h.tb.below hb, h.be.trans (hb.mono h.be.size)⟩
/-- The rows of named ones, in their order. -/
def rwA (x : At) : Nat → List Nm
  | 0 => x.ac.us
  | 1 => x.ac.gs
  | 2 => x.df.us
  | _ => x.df.gs
def flN (x : At) (k : Nat) : List Nat := ((List.range k).map fun j => [prW (rwA x j) 0, prW (rwA x j) 2]).flatten
theorem flN_succ (x : At) (k : Nat) : flN x (k + 1) = flN x k ++ [prW (rwA x k) 0, prW (rwA x k) 2] := by simp [flN, List.range_succ]
theorem flN_length (x : At) (k : Nat) : (flN x k).length = 2 * k := by
  induction k with
  | zero => rfl
  | succ k ih => rw [flN_succ, List.length_append, ih]; simp; omega
abbrev slA (x : At) (p : ALie) : Array Value := #[.slice p.p.A x.ac.us.length p.p.c, .slice p.p.B x.ac.gs.length p.p.d, .slice p.q.A x.df.us.length p.q.c, .slice p.q.B x.df.gs.length p.q.d]
theorem rwA_at {w : World} {x : At} {p : ALie} (h : ALies w x p) (hx : AtFit x) {k : Nat} (hk : k < 4) : ∃ A c, (slA x p)[k]? = some (.slice A (rwA x k).length c) ∧ Cel w A (nv (rwA x k)) ∧ (rwA x k).length ≤ 4 ∧ ∀ (j : Nat) q, (rwA x k)[j]? = some q → q.id < 65536 ∧ q.pm < 256 := by
  obtain rfl | rfl | rfl | rfl : k = 0 ∨ k = 1 ∨ k = 2 ∨ k = 3 := by omega
  · exact ⟨_, _, rfl, h.ac.us, hx.ac.ul, hx.ac.us⟩
  · exact ⟨_, _, rfl, h.ac.gs, hx.ac.gl, hx.ac.gs⟩
  · exact ⟨_, _, rfl, h.df.us, hx.df.ul, hx.df.us⟩
  · exact ⟨_, _, rfl, h.df.gs, hx.df.gl, hx.df.gs⟩
def w0A (x : At) : Nat := x.bi + 8 * flg x.hd + 16 * x.xs.length + 4294967296 * 1096045650
def w1A (x : At) : Nat := x.ui + 65536 * x.gi
theorem w0_sum (x : At) : 0 + x.bi * 2 ^ 0 + flg x.hd * 2 ^ (0 + 3) + x.xs.length * 2 ^ (0 + 3 + 1) + 1096045650 * 2 ^ 32 = w0A x := by
  simp only [w0A, Nat.zero_add, Nat.pow_zero, Nat.mul_one, Nat.reduceAdd, Nat.reducePow]
  omega
theorem w1_sum (x : At) : 0 + x.ui * 2 ^ 0 + x.gi * 2 ^ (0 + 16) = w1A x := by
  simp only [w1A, Nat.zero_add, Nat.pow_zero, Nat.mul_one, Nat.reducePow]
  omega
theorem atL_tape (x : At) : tp ([w0A x, w1A x, hdW x.ac, hdW x.df] ++ flN x 4 ++ flX x.xs 4) 0 = atL x := rfl
abbrev z31 : Array Value := #[.int .u64 0, .int .u64 0, .int .u64 0, .int .u64 0, .int .u64 0, .int .u64 0, .int .u64 0, .int .u64 0, .int .u64 0, .int .u64 0, .int .u64 0, .int .u64 0, .int .u64 0, .int .u64 0, .int .u64 0, .int .u64 0, .int .u64 0, .int .u64 0, .int .u64 0, .int .u64 0, .int .u64 0, .int .u64 0, .int .u64 0, .int .u64 0, .int .u64 0, .int .u64 0, .int .u64 0, .int .u64 0, .int .u64 0, .int .u64 0, .int .u64 0]
abbrev z32 : Array Value := #[.int .u64 0, .int .u64 0, .int .u64 0, .int .u64 0, .int .u64 0, .int .u64 0, .int .u64 0, .int .u64 0, .int .u64 0, .int .u64 0, .int .u64 0, .int .u64 0, .int .u64 0, .int .u64 0, .int .u64 0, .int .u64 0, .int .u64 0, .int .u64 0, .int .u64 0, .int .u64 0, .int .u64 0, .int .u64 0, .int .u64 0, .int .u64 0, .int .u64 0, .int .u64 0, .int .u64 0, .int .u64 0, .int .u64 0, .int .u64 0, .int .u64 0, .int .i64 0]
set_option maxRecDepth 100000 in
theorem Wst.start (w : World) (x : At) (p : ALie) : Wst w (((w.alloc (.cells (x.c p) 28)).alloc (.cells z31 68)).alloc (.cells z32 91)) x p [] 0 0 := by
  have b1 : Below w.heap.size w (w.alloc (.cells (x.c p) 28)) := (Below.refl _ _).alloc (Nat.le_refl _) _
  refine ⟨?_, ?_, ⟨?_, by decide⟩, (b1.alloc (by simp) _).alloc (by simp; omega) _⟩
  · exact ((Bt.new w x p).on ((Below.refl _ _).alloc (Nat.le_refl _) _)).on ((Below.refl _ _).alloc (Nat.le_refl _) _)
  · have h := heap_alloc_new (w.alloc (.cells (x.c p) 28)) (.cells z31 68)
    rw [World.size_alloc] at h
    exact (Below.heap_alloc _ _ _ (by simp)).trans h
  · have h := heap_alloc_new ((w.alloc (.cells (x.c p) 28)).alloc (.cells z31 68)) (.cells z32 91)
    rw [World.size_alloc, World.size_alloc] at h
    exact h
set_option maxRecDepth 100000 in
set_option maxHeartbeats 4000000 in
theorem written_calls (x : At) (p : ALie) (w : World) (h : ALies w x p) (hx : AtFit x) :
    Calls Tryz.prog 40 #[x.v p] w fun e w' => e = .returned (.agg (wv (atL x)).toArray) ∧ Below w.heap.size w w' := by
  obtain ⟨V, hV⟩ : ∃ V, V = ((w.alloc (.cells (x.c p) 28)).alloc (.cells z31 68)).alloc (.cells z32 91) := ⟨_, rfl⟩
  have S0 : Hid (Wst w V x p [] 0 0) := Lib.hid (by rw [hV]; exact Wst.start w x p)
  have HR := Lib.hid (fun (k : Nat) (hk : k < 4) => rwA_at h hx hk)
  have HXc := Lib.hid h.xs
  have i1 := hx.bi
  have i2 := hx.ui
  have i3 := hx.gi
  have i4 := hx.xl
  have HX := Lib.hid hx
  clear h hx
  go_enter Tryz.func40, Tryz.ntmps40
  go_upto_region 2 with (fail)
  rw [← hV]
  clear hV
  have y0 := S0.out.bt.c0
  have y1 := S0.out.bt.c1
  have y2 := S0.out.bt.c2
  have y10 := S0.out.bt.c10
  have y18 := S0.out.bt.c18
  go_wp2_with (fail)
  refine (tput_calls (w.heap.size + 1 + 1) [] _ _ 3 x.bi 3 (x.bi : Nat) V rfl rfl S0.out.tb (by decide) (by decide) (by decide) (by show _ < 8; omega)).mono ?_
  rintro e w1 ⟨rfl, h1, h2⟩
  have S1 := Lib.hid (Wst.step (L' := []) S0.out h2 h1)
  clear h1 h2 y0 y1 y2 y10 y18 S0
  have y0 := S1.out.bt.c0
  have y1 := S1.out.bt.c1
  have y2 := S1.out.bt.c2
  have y10 := S1.out.bt.c10
  have y18 := S1.out.bt.c18
  go_wp2_with (fail)
  refine (putFlag_calls (w.heap.size + 1 + 1) [] _ _ x.hd w1 S1.out.tb (by decide) (by decide)).mono ?_
  rintro e w2 ⟨rfl, h1, h2⟩
  have S2 := Lib.hid (Wst.step (L' := []) S1.out h2 h1)
  clear h1 h2 y0 y1 y2 y10 y18 S1
  have y0 := S2.out.bt.c0
  have y1 := S2.out.bt.c1
  have y2 := S2.out.bt.c2
  have y10 := S2.out.bt.c10
  have y18 := S2.out.bt.c18
  go_wp2_with (fail)
  refine (tput_calls (w.heap.size + 1 + 1) [] _ _ 4 x.xs.length 4 (x.xs.length : Nat) w2 rfl rfl S2.out.tb (by decide) (by decide) (by decide) (by show _ < 16; omega)).mono ?_
  rintro e w3 ⟨rfl, h1, h2⟩
  have S3 := Lib.hid (Wst.step (L' := []) S2.out h2 h1)
  clear h1 h2 y0 y1 y2 y10 y18 S2
  have y0 := S3.out.bt.c0
  have y1 := S3.out.bt.c1
  have y2 := S3.out.bt.c2
  have y10 := S3.out.bt.c10
  have y18 := S3.out.bt.c18
  go_wp2_with (fail)
  refine (to_calls (w.heap.size + 1 + 1) [] _ _ 32 32 w3 rfl S3.out.tb (by decide) (by decide) (by decide) (by decide)).mono ?_
  rintro e w4 ⟨rfl, h1, h2⟩
  have S4 := Lib.hid (Wst.step (L' := []) S3.out h2 h1)
  clear h1 h2 y0 y1 y2 y10 y18 S3
  have y0 := S4.out.bt.c0
  have y1 := S4.out.bt.c1
  have y2 := S4.out.bt.c2
  have y10 := S4.out.bt.c10
  have y18 := S4.out.bt.c18
  go_wp2_with (fail)
  refine (tput_calls (w.heap.size + 1 + 1) [] _ _ 32 1096045650 32 1096045650 w4 rfl rfl S4.out.tb (by decide) (by decide) (by decide) (by decide)).mono ?_
  rintro e w5 ⟨rfl, h1, h2⟩
  have S5 := Lib.hid (Wst.step (L' := [w0A x]) S4.out h2 (by have h := h1.turn (by decide); rw [w0_sum x] at h; exact h))
  clear h1 h2 y0 y1 y2 y10 y18 S4
  have y0 := S5.out.bt.c0
  have y1 := S5.out.bt.c1
  have y2 := S5.out.bt.c2
  have y10 := S5.out.bt.c10
  have y18 := S5.out.bt.c18
  go_wp2_with (fail)
  refine (tput_calls (w.heap.size + 1 + 1) [w0A x] _ _ 16 x.ui 16 (x.ui : Nat) w5 rfl rfl S5.out.tb (by simp) (by decide) (by decide) (by show _ < 65536; omega)).mono ?_
  rintro e w6 ⟨rfl, h1, h2⟩
  have S6 := Lib.hid (Wst.step (L' := [w0A x]) S5.out h2 h1)
  clear h1 h2 y0 y1 y2 y10 y18 S5
  have y0 := S6.out.bt.c0
  have y1 := S6.out.bt.c1
  have y2 := S6.out.bt.c2
  have y10 := S6.out.bt.c10
  have y18 := S6.out.bt.c18
  go_wp2_with (fail)
  refine (tput_calls (w.heap.size + 1 + 1) [w0A x] _ _ 16 x.gi 16 (x.gi : Nat) w6 rfl rfl S6.out.tb (by simp) (by decide) (by decide) (by show _ < 65536; omega)).mono ?_
  rintro e w7 ⟨rfl, h1, h2⟩
  have S7 := Lib.hid (Wst.step (L' := [w0A x]) S6.out h2 h1)
  clear h1 h2 y0 y1 y2 y10 y18 S6
  have y0 := S7.out.bt.c0
  have y1 := S7.out.bt.c1
  have y2 := S7.out.bt.c2
  have y10 := S7.out.bt.c10
  have y18 := S7.out.bt.c18
  go_wp2_with (fail)
  refine (to_calls (w.heap.size + 1 + 1) [w0A x] _ _ 64 64 w7 rfl S7.out.tb (by simp) (by decide) (by decide) (by decide)).mono ?_
  rintro e w8 ⟨rfl, h1, h2⟩
  have S8 := Lib.hid (Wst.step (L' := [w0A x, w1A x]) S7.out h2 (by have h := h1.turn (by simp); rw [w1_sum x] at h; exact h))
  clear h1 h2 y0 y1 y2 y10 y18 S7
  have y0 := S8.out.bt.c0
  have y1 := S8.out.bt.c1
  have y2 := S8.out.bt.c2
  have y10 := S8.out.bt.c10
  have y18 := S8.out.bt.c18
  go_wp2_with (refine wpList_load_part rfl 25 (.tmp 29) rfl w.heap.size 3 rfl (x.ac.c p.p).toList _ S8.out.bt.ac Tryz.underlying25 rfl acl_size (x.ac.v p.p) rfl ?_)
  refine (putHead_calls (w.heap.size + 1 + 1) [w0A x, w1A x] x.ac p.p w8 S8.out.tb (by simp) HX.out.ac).mono ?_
  rintro e w9 ⟨rfl, h1, h2⟩
  have S9 := Lib.hid (Wst.step (L' := [w0A x, w1A x, hdW x.ac]) S8.out h2 h1)
  clear h1 h2 y0 y1 y2 y10 y18 S8
  have y0 := S9.out.bt.c0
  have y1 := S9.out.bt.c1
  have y2 := S9.out.bt.c2
  have y10 := S9.out.bt.c10
  have y18 := S9.out.bt.c18
  go_wp2_with (refine wpList_load_part rfl 25 (.tmp 32) rfl w.heap.size 11 rfl (x.df.c p.q).toList _ S9.out.bt.df Tryz.underlying25 rfl acl_size (x.df.v p.q) rfl ?_)
  refine (putHead_calls (w.heap.size + 1 + 1) [w0A x, w1A x, hdW x.ac] x.df p.q w9 S9.out.tb (by simp) HX.out.df).mono ?_
  rintro e w10 ⟨rfl, h1, h2⟩
  have S10 := Lib.hid (Wst.step (L' := [w0A x, w1A x, hdW x.ac, hdW x.df]) S9.out h2 h1)
  clear h1 h2 y0 y1 y2 y10 y18 S9
  have y0 := S10.out.bt.c0
  have y1 := S10.out.bt.c1
  have y2 := S10.out.bt.c2
  have y10 := S10.out.bt.c10
  have y18 := S10.out.bt.c18
  have y6 := S10.out.bt.c6
  have y7 := S10.out.bt.c7
  have y14 := S10.out.bt.c14
  have y15 := S10.out.bt.c15
  go_wp2_with (fail)
  clear y0 y1 y2 y10 y18 y6 y7 y14 y15
  obtain ⟨G, hG⟩ : ∃ G, G = w10.heap.size := ⟨_, rfl⟩
  rw [← hG]
  obtain ⟨V2, hV2⟩ : ∃ V2, V2 = w10.alloc (Obj.cells (slA x p) 23) := ⟨_, rfl⟩
  rw [← hV2]
  have hbe : Below w10.heap.size w10 V2 := by rw [hV2]; exact (Below.refl _ _).alloc (Nat.le_refl _) _
  have HG : Hid (V2.heap[G]? = some (.cells (slA x p) 23 (0, 0))) := Lib.hid (by rw [hV2, hG]; exact heap_alloc_new _ _)
  have S11 : Hid (Wst w V2 x p ([w0A x, w1A x, hdW x.ac, hdW x.df] ++ flN x 0) 0 0) := Lib.hid (by have h := S10.out.on hbe; simpa [flN] using h)
  have hne : G ≠ w.heap.size + 1 + 1 := by have := S10.out.tb.tr.lt; omega
  clear hbe hV2 hG S10
  go_loopw [49] (fun i wr => ∃ k : Nat, i = .int .i64 k ∧ k ≤ 4 ∧ Hid (Wst w wr x p ([w0A x, w1A x, hdW x.ac, hdW x.df] ++ flN x k) 0 0) ∧ Hid (wr.heap[G]? = some (.cells (slA x p) 23 (0, 0)))) (fun i _ => 4 - (intOf i).toNat)
  case atStart => exact ⟨0, rfl, by omega, S11, HG⟩
  case round =>
    obtain ⟨k, rfl, hk, hS, hGG⟩ := hrel
    by_cases hkm : k < 4
    · obtain ⟨A, c, e, hc, hl, hb⟩ := HR.out k hkm
      have hc0 : wr.cell? ⟨G, k, none⟩ = some (.slice A (rwA x k).length c) := by
        rw [cell_of_row wr G k _ _ (0, 0) hGG.out]
        exact e
      have HCC := Lib.hid (hc.below hS.out.be)
      have HBB := Lib.hid hb
      have hL1 : ([w0A x, w1A x, hdW x.ac, hdW x.df] ++ flN x k).length + 2 ≤ 31 := by rw [List.length_append, flN_length]; simp; omega
      clear hc hb e
      go_wp2_with (fail)
      refine (putAllN_calls (w.heap.size + 1 + 1) ([w0A x, w1A x, hdW x.ac, hdW x.df] ++ flN x k) (rwA x k) A c wr hS.out.tb hL1 hl HBB.out HCC.out).mono ?_
      rintro e w3 ⟨rfl, h1, h2⟩
      rw [List.append_assoc, ← flN_succ] at h1
      have S3 : Hid (Wst w w3 x p ([w0A x, w1A x, hdW x.ac, hdW x.df] ++ flN x (k + 1)) 0 0) := Lib.hid (Wst.step hS.out h2 h1)
      have G3 := Lib.hid ((h2.block _ (lt_of_cells hGG.out) hne).trans hGG.out)
      clear h1 h2 hc0
      go_wp2_with (fail)
      go_roundw
      case rel => exact ⟨k + 1, by go_num, by omega, S3, G3⟩
      case measure => simp [intOf]; omega
    · obtain rfl : k = 4 := by omega
      have y18 := hS.out.bt.c18
      have hL1 : ([w0A x, w1A x, hdW x.ac, hdW x.df] ++ flN x 4).length + 16 ≤ 31 := by rw [List.length_append, flN_length]; simp
      go_wp2_with (fail)
      refine (putAllX_calls (w.heap.size + 1 + 1) ([w0A x, w1A x, hdW x.ac, hdW x.df] ++ flN x 4) x.xs p.X p.n wr hS.out.tb hL1 i4 HX.out.xs (HXc.out.below hS.out.be)).mono ?_
      rintro e w3 ⟨rfl, h1, h2⟩
      have S3 := Lib.hid (Wst.step hS.out h2 h1)
      clear h1 h2 y18
      have ht := S3.out.tb.tr
      rw [atL_tape] at ht
      have hcs : ∀ j u, (wv (atL x))[j]? = some u → w3.cell? ⟨w.heap.size + 1 + 1, 0 + j, none⟩ = some u := fun j u hu => by
        have hj : j < (atL x).length := by have := (List.getElem?_eq_some_iff.1 hu).1; rwa [wv_length] at this
        rw [Nat.zero_add, ht.cell j hj, ← wv_get _ _ hj]
        exact hu
      have HC3 := Lib.hid hcs
      have HW1 : Hid ((wv (atL x)).toArray.all (·.oneCell') = true) := Lib.hid (by rw [← Array.all_toList, List.all_eq_true]; exact wv_one _)
      have hq : (w3.setRow (w.heap.size + 1) (wv (atL x)).toArray).heap[w.heap.size + 1]? = some (.cells (wv (atL x)).toArray 68 (0, 0)) := setRow_heap _ _ _ _ _ _ S3.out.zr
      have hbq : Below w.heap.size w (w3.setRow (w.heap.size + 1) (wv (atL x)).toArray) := below_setRow S3.out.be (Nat.le_succ _) _
      have HQ := Lib.hid hq
      have HBQ := Lib.hid hbq
      have hsz : (Tryz.prog.info? 68).map (·.size) = some (wv (atL x)).length := words_size
      have hsz2 : (Tryz.prog.info? 68).map (·.size) = some (wv (atL x)).toArray.size := words_size
      clear ht hcs hq hbq
      generalize hRe : wv (atL x) = R at *
      have HRR := Lib.hid hRe
      clear hRe
      obtain ⟨V4, hV4⟩ : ∃ V4, V4 = w3.setRow (w.heap.size + 1) R.toArray := ⟨_, rfl⟩
      rw [← hV4] at HQ HBQ
      go_wp2_with (first
        | (refine wpList_load_part rfl 68 (.tmp 61) rfl (w.heap.size + 1 + 1) 0 rfl R _ HC3.out Tryz.underlying68 rfl hsz (.agg R.toArray) rfl ?_)
        | (refine wpList_store_row rfl 68 (.tmp 2) (.tmp 62) rfl (w.heap.size + 1) R.toArray rfl rfl 68 _ S3.out.zr hsz2 (Option.some.inj (words_size.symm.trans hsz2)) HW1.out ?_; rw [← hV4]))
      exact bodyPost_ret (results_cell_row rfl _ _ (w.heap.size + 1) 68 _ (0, 0) _ rfl HQ.out Tryz.underlying68 rfl hsz2) rfl ⟨by rw [HRR.out], HBQ.out⟩
end Go.Proofs.YtlejmpinfbmccaaGreatDoor
