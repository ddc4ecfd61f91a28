/- A list's bits turned, by the program; the list of bits. -/
import Derived.Test.YtcjaebcninlhlaaAc8
set_option linter.unusedSimpArgs false
set_option linter.unusedVariables false
namespace Go.Proofs.Ytcjaebcninlhlaa
open Go.RowKit Go.Sort Go.Lib
theorem Cel.nm0 {w : World} {b o : Nat} {L : List Nm} (h : Cel w (some ⟨b, o, none⟩) (nv L)) {k : Nat} {p : Nm} (hk : L[k]? = some p) : w.cell? ⟨b, o + k * 2, none⟩ = some (.int .u16 (p.id : Nat)) ∧ w.cell? ⟨b, o + k * 2 + 1, none⟩ = some (.int .u8 (p.pm : Nat)) := by
  obtain ⟨b', o', e, _, hc⟩ := h.nm (by have := (List.getElem?_eq_some_iff.1 hk).1; omega)
  injection e with e
  injection e with e1 e2
  subst e1 e2
  exact hc k p hk
/-- The number of one class turned. -/
def setK (x : Ac) (k v : Nat) : Ac :=
  if k = 0 then ⟨v, x.gr, x.ot, x.us, x.gs, x.hm, x.ms⟩
  else if k = 1 then ⟨x.ow, (if x.hm then x.gr else v), x.ot, x.us, x.gs, x.hm, (if x.hm then v else x.ms)⟩
  else ⟨x.ow, x.gr, v, x.us, x.gs, x.hm, x.ms⟩
/-- The first k classes turned. -/
def chK (x : Ac) (b : Nat) : Nat → Ac
  | 0 => x
  | k + 1 => setK (chK x b k) k (b * 8 ^ k % 65536 / 64 % 256 % 8)
theorem setK_rows (x : Ac) (k v : Nat) : (setK x k v).us = x.us ∧ (setK x k v).gs = x.gs ∧ (setK x k v).hm = x.hm := by
  unfold setK
  split
  · exact ⟨rfl, rfl, rfl⟩
  · split <;> exact ⟨rfl, rfl, rfl⟩
theorem chK_rows (x : Ac) (b k : Nat) : (chK x b k).us = x.us ∧ (chK x b k).gs = x.gs ∧ (chK x b k).hm = x.hm := by
  induction k with
  | zero => exact ⟨rfl, rfl, rfl⟩
  | succ k ih =>
    obtain ⟨h1, h2, h3⟩ := setK_rows (chK x b k) k (b * 8 ^ k % 65536 / 64 % 256 % 8)
    exact ⟨h1.trans ih.1, h2.trans ih.2.1, h3.trans ih.2.2⟩
theorem chK_three (x : Ac) (b : Nat) (hb : b < 65536) : chK x b 3 = chA x b := by
  obtain ⟨ow, gr, ot, us, gs, hm, ms⟩ := x
  have e0 : b * 8 ^ 0 % 65536 / 64 % 256 % 8 = b / 64 % 8 := by omega
  have e1 : b * 8 ^ 1 % 65536 / 64 % 256 % 8 = b / 8 % 8 := by omega
  have e2 : b * 8 ^ 2 % 65536 / 64 % 256 % 8 = b % 8 := by omega
  simp only [chK, e0, e1, e2, setK, chA]
  cases hm <;> simp
theorem atK_eq {x y : Ac} (h : y.hm = x.hm) (k : Nat) : atK y k = atK x k := by
  unfold atK at1
  rw [h]
section
variable {w w' : World} {b : Nat} {x : Ac} {p q : Lie}
theorem Ab.setK (h : Ab w b x p) (k v : Nat) (hk : k < 3) : Ab (w.setCell ⟨b, atK x k, none⟩ (.int .u8 (v : Nat))) b (setK x k v) p := by
  have h7 := set_cell h (atK x k) (.int .u8 (v : Nat))
  obtain ⟨ow, gr, ot, us, gs, hm, ms⟩ := x
  unfold Ab
  obtain rfl | rfl | rfl : k = 0 ∨ k = 1 ∨ k = 2 := by omega
  · simpa [atK, Go.Proofs.Ytcjaebcninlhlaa.setK] using h7
  · cases hm <;> simpa [atK, at1, Go.Proofs.Ytcjaebcninlhlaa.setK] using h7
  · simpa [atK, Go.Proofs.Ytcjaebcninlhlaa.setK] using h7
theorem Ab.frozenK (h : Ab w b x p) (k : Nat) : w.frozen? ⟨b, atK x k, none⟩ = false := h.frozen _
/-- What holds round by round: the list in its block, k classes turned; the result's block; the rows. -/
structure Tr (w wr : World) (x : Ac) (q : Lie) (b k : Nat) : Prop where
  blk : Ab wr w.heap.size (chK x b k) q
  res : Ab wr (w.heap.size + 1) acZ lieZ
  rows : Copied w wr x q
  far : Far (w.heap.size + 2) q
  low : Below w.heap.size w wr
theorem Tr.on {w wr w' : World} {x : Ac} {q : Lie} {b k : Nat} (h : Tr w wr x q b k) (hb : Below wr.heap.size wr w') : Tr w w' x q b k :=
  ⟨h.blk.on hb, h.res.on hb, h.rows.on hb, h.far, h.low.trans (hb.mono h.low.size)⟩
theorem Tr.step {w wr : World} {x : Ac} {q : Lie} {b k : Nat} (h : Tr w wr x q b k) (hk : k < 3) : Tr w (wr.setCell ⟨w.heap.size, atK x k, none⟩ (.int .u8 ((b * 8 ^ k % 65536 / 64 % 256 % 8 : Nat) : Int))) x q b (k + 1) := by
  have e := atK_eq (chK_rows x b k).2.2 k
  refine ⟨?_, h.res.other _ (by show w.heap.size + 1 ≠ w.heap.size; omega), h.rows.set _ (fun ad hA => ?_) (fun ad hB => ?_), h.far, h.low.setCell (Nat.le_refl _) _⟩
  · have h1 := h.blk.setK k (b * 8 ^ k % 65536 / 64 % 256 % 8) hk
    rw [e] at h1
    exact h1
  · have := h.far.1 ad hA
    show ad.block ≠ w.heap.size
    omega
  · have := h.far.2 ad hB
    show ad.block ≠ w.heap.size
    omega
end
theorem shr_and (B : Nat) (hB : B < 65536) : bits .and .u8 (((B : Int) / 64) % 256) 7 = ((B / 64 % 256 % 8 : Nat) : Int) := by
  have := and7 (B / 64 % 256) (by omega)
  rw [show ((B / 64 % 256 : Nat) : Int) = (B : Int) / 64 % 256 by omega] at this
  exact this
set_option maxRecDepth 100000 in
set_option maxHeartbeats 2000000 in
theorem chmod_calls (x : Ac) (p : Lie) (b : Nat) (w : World) (h : Lies w x p) (hs : Sm x) (hb : b < 65536) : Calls Try.prog 16 #[x.v p, .int .u16 (b : Nat)] w fun e w' => ∃ q, e = .returned ((chA x b).v q) ∧ Copied w w' (chA x b) q ∧ Below w.heap.size w w' := by
  obtain ⟨U, hU⟩ : ∃ U, U = (w.alloc (.cells (x.c p) 24)).alloc (.cells zC 24) := ⟨_, rfl⟩
  obtain ⟨z1, z2⟩ := Ab.two w x p
  replace z1 : Ab U w.heap.size x p := by rw [hU]; exact z1
  replace z2 : Ab U (w.heap.size + 1) acZ lieZ := by rw [hU]; exact z2
  have hbU : Below w.heap.size w U := by rw [hU]; exact ((Below.refl _ _).alloc (Nat.le_refl _) _).alloc (by simp) _
  have hsz : U.heap.size = w.heap.size + 2 := by rw [hU]; simp
  have hcp := copy_calls x p U (h.below hbU) hs
  clear h hs
  obtain ⟨y0, y1, y2, y3, y4, y5, y6⟩ := z1.cells
  have HCP := Lib.hid hcp
  have HZ := Lib.hid hsz
  have HB := Lib.hid hbU
  have HU := Lib.hid hU
  have Z2 := Lib.hid z2
  have Z1 := Lib.hid z1
  clear hcp hsz hbU hU z1 z2
  go_enter Try.func16, Try.ntmps16
  go_upto_region 1 with (fail)
  rw [← HU.out]
  clear HU
  go_wp2_with (fail)
  refine HCP.out.mono ?_
  rintro e w1 ⟨⟨A1, c1, B1, d1⟩, rfl, hC, hb1⟩
  clear y0 y1 y2 y3 y4 y5 y6 HCP
  have HC := Lib.hid hC
  have HB1 := Lib.hid hb1
  have z1 := Z1.out.on hb1
  obtain ⟨y0, y1, y2, y3, y4, y5, y6⟩ := z1.cells
  have f0 := z1.frozen 0
  have f1 := z1.frozen 1
  have f2 := z1.frozen 2
  have f3 := z1.frozen 3
  have f4 := z1.frozen 4
  have f5 := z1.frozen 5
  have f6 := z1.frozen 6
  have ZZ1 := Lib.hid z1
  clear z1 hC hb1 Z1
  go_upto_region 2 with (fail)
  clear y0 y1 y2 y3 y4 y5 y6 f0 f1 f2 f3 f4 f5 f6
  generalize hV : (((((((w1.setCell ⟨w.heap.size, 0, none⟩ (.int .u8 (x.ow : Nat))).setCell ⟨w.heap.size, 1, none⟩ (.int .u8 (x.gr : Nat))).setCell ⟨w.heap.size, 2, none⟩ (.int .u8 (x.ot : Nat))).setCell ⟨w.heap.size, 3, none⟩ (.slice A1 x.us.length c1)).setCell ⟨w.heap.size, 4, none⟩ (.slice B1 x.gs.length d1)).setCell ⟨w.heap.size, 5, none⟩ (.bool x.hm)).setCell ⟨w.heap.size, 6, none⟩ (.int .u8 (x.ms : Nat))) = V
  have hV2 : setAll w1 w.heap.size x ⟨A1, c1, B1, d1⟩ = V := hV
  have hT : Tr w V x ⟨A1, c1, B1, d1⟩ b 0 := by
    rw [← hV2]
    have q0 := HZ.out
    have q1 := HB1.out.size
    have hf : Far (w.heap.size + 2) ⟨A1, c1, B1, d1⟩ := HC.out.far.mono (by omega)
    exact ⟨Ab.all ZZ1.out x ⟨A1, c1, B1, d1⟩, (Z2.out.on HB1.out).others x ⟨A1, c1, B1, d1⟩ (by omega), (HC.out.from (by omega)).all x ⟨A1, c1, B1, d1⟩ (fun ad e => by have := hf.1 ad e; omega) (fun ad e => by have := hf.2 ad e; omega), hf,
      below_all (HB.out.trans (HB1.out.mono HB.out.size)) (Nat.le_refl _) x⟩
  have HT := Lib.hid hT
  clear hV hV2 hT HC HB HB1 HZ Z2 ZZ1
  go_wp2_with (fail)
  refine (classes_calls w.heap.size x ⟨A1, c1, B1, d1⟩ V HT.out.blk).mono ?_
  rintro e w3 ⟨rfl, hb3⟩
  have HT3 := Lib.hid (HT.out.on hb3)
  clear hb3 HT
  go_wp2_with (fail)
  go_loopw [1, 6, 10] (fun v n i wr => ∃ k N : Nat, i = .int .i64 k ∧ k ≤ 3 ∧ v = .int .u16 (N : Nat) ∧ Hid (N = b * 8 ^ k % 65536) ∧ Hid (Tr w wr x ⟨A1, c1, B1, d1⟩ b k)) (fun _ _ i _ => 3 - (intOf i).toNat)
  case atStart => exact ⟨0, b, rfl, by omega, rfl, Lib.hid (by omega), HT3⟩
  case round =>
    obtain ⟨k, N, rfl, hk, rfl, hN, hT⟩ := hrel
    by_cases hk3 : k < 3
    · have hI := fun W => run_idxK w.heap.size x k hk3 W
      have zk := hT.out.blk
      have e := atK_eq (chK_rows x b k).2.2 k
      have hc := zk.classK k hk3
      have hf := zk.frozenK k
      rw [e] at hc hf
      have hN6 : N < 65536 := by have := hN.out; omega
      have hsh := Lib.hid (shr_and N hN6)
      have HS := Lib.hid (hT.out.step hk3)
      obtain ⟨j, hj⟩ : ∃ j, atK x k = j := ⟨_, rfl⟩
      rw [hj] at hc hf hI
      have HJ := Lib.hid hj
      clear hj e zk
      go_wp2_with (fail)
      go_roundw
      case rel =>
        have e1 : ((N : Int) / 64 % 8) = ((b * 8 ^ k % 65536 / 64 % 256 % 8 : Nat) : Int) := by rw [← hN.out]; omega
        have hS := HS.out
        rw [HJ.out, ← e1] at hS
        exact ⟨k + 1, N * 8 % 65536, by go_num, by omega, by first | rfl | (congr 1; rw [IntKind.wrap_u16]) | (congr 1; rw [IntKind.wrap_u16]; omega), Lib.hid (by have := hN.out; rw [Nat.pow_succ, ← Nat.mul_assoc]; omega), Lib.hid hS⟩
      case measure => simp [intOf]; omega
    · obtain rfl : k = 3 := by omega
      obtain ⟨zb, zr, hC, hf, hl⟩ := hT.out
      rw [chK_three x b hb] at zb
      have hnf := Lib.hid hf
      have HC := Lib.hid hC
      have HL := Lib.hid hl
      have ZR := Lib.hid zr
      obtain ⟨y0, y1, y2, y3, y4, y5, y6⟩ := zb.cells
      obtain ⟨v0, v1, v2, v3, v4, v5, v6⟩ := zr.cells
      have f0 := zr.frozen 0
      have f1 := zr.frozen 1
      have f2 := zr.frozen 2
      have f3 := zr.frozen 3
      have f4 := zr.frozen 4
      have f5 := zr.frozen 5
      have f6 := zr.frozen 6
      simp only at v0 v1 v2 v3 v4 v5 v6
      clear zb zr hC hf hl hT
      obtain ⟨X, hX⟩ : ∃ X, chA x b = X := ⟨_, rfl⟩
      have HX := Lib.hid hX
      have hus : X.us.length = x.us.length := by rw [← hX]; rfl
      rw [hX] at y0 y1 y2 y3 y4 y5 y6
      clear hX hus
      go_wp2_with (fail)
      clear y0 y1 y2 y3 y4 y5 y6 v0 v1 v2 v3 v4 v5 v6 f0 f1 f2 f3 f4 f5 f6
      generalize hV : (((((((wr.setCell ⟨w.heap.size + 1, 0, none⟩ (.int .u8 (X.ow : Nat))).setCell ⟨w.heap.size + 1, 1, none⟩ (.int .u8 (X.gr : Nat))).setCell ⟨w.heap.size + 1, 2, none⟩ (.int .u8 (X.ot : Nat))).setCell ⟨w.heap.size + 1, 3, none⟩ (.slice A1 X.us.length c1)).setCell ⟨w.heap.size + 1, 4, none⟩ (.slice B1 X.gs.length d1)).setCell ⟨w.heap.size + 1, 5, none⟩ (.bool X.hm)).setCell ⟨w.heap.size + 1, 6, none⟩ (.int .u8 (X.ms : Nat))) = V
      have hV2 : setAll wr (w.heap.size + 1) X ⟨A1, c1, B1, d1⟩ = V := hV
      have z9 := Ab.all ZR.out X ⟨A1, c1, B1, d1⟩
      have b9 := below_all (p := ⟨A1, c1, B1, d1⟩) HL.out (Nat.le_succ w.heap.size) X
      have c9 := (HC.out.ch b).all (b := w.heap.size + 1) X ⟨A1, c1, B1, d1⟩ (fun ad e => by have := hnf.out.1 ad e; omega) (fun ad e => by have := hnf.out.2 ad e; omega)
      rw [hV2] at z9 c9
      replace b9 : Below w.heap.size w V := hV2 ▸ b9
      clear hV hV2
      obtain ⟨y0, y1, y2, y3, y4, y5, y6⟩ := z9.cells
      simp only at y0 y1 y2 y3 y4 y5 y6
      exact bodyPost_ret (v := Ac.v X ⟨A1, c1, B1, d1⟩) (by simp [results, Try.results16, go_sem, y0, y1, y2, y3, y4, y5, y6]) rfl ⟨⟨A1, c1, B1, d1⟩, by rw [HX.out], c9, b9⟩
set_option maxRecDepth 100000 in
theorem of_calls (b : Nat) (w : World) (hb : b < 65536) : Calls Try.prog 19 #[.int .u16 (b : Nat)] w fun e w' => ∃ q, e = .returned ((ofA b).v q) ∧ Copied w w' (ofA b) q ∧ Below w.heap.size w w' := by
  have hR : Calls Try.prog 16 #[.agg zC, .int .u16 (b : Nat)] (w.alloc (.cells zC 24)) fun e w' => ∃ q, e = .returned ((ofA b).v q) ∧ Copied (w.alloc (.cells zC 24)) w' (ofA b) q ∧ Below (w.alloc (.cells zC 24)).heap.size (w.alloc (.cells zC 24)) w' :=
    chmod_calls acZ lieZ b _ ⟨Cel.nil _ _, Cel.nil _ _⟩ ⟨by decide, by decide⟩ hb
  have z0 : Ab (w.alloc (.cells zC 24)) w.heap.size acZ lieZ := Ab.new w acZ lieZ
  have hb0 : Below w.heap.size w (w.alloc (.cells zC 24)) := (Below.refl _ _).alloc (Nat.le_refl _) _
  have hsz : (w.alloc (.cells zC 24)).heap.size = w.heap.size + 1 := by simp
  have HR := Lib.hid hR
  have HZ := Lib.hid z0
  have HB := Lib.hid hb0
  have HS := Lib.hid hsz
  clear hR z0 hb0 hsz
  go_enter Try.func19, Try.ntmps19
  go_wp2_with (fail)
  refine HR.out.mono ?_
  rintro e w1 ⟨⟨A1, c1, B1, d1⟩, rfl, hC, hb1⟩
  have z1 := HZ.out.on hb1
  have HC := Lib.hid hC
  have HB1 := Lib.hid hb1
  have ZR := Lib.hid z1
  obtain ⟨v0, v1, v2, v3, v4, v5, v6⟩ := z1.cells
  have f0 := z1.frozen 0
  have f1 := z1.frozen 1
  have f2 := z1.frozen 2
  have f3 := z1.frozen 3
  have f4 := z1.frozen 4
  have f5 := z1.frozen 5
  have f6 := z1.frozen 6
  simp only at v0 v1 v2 v3 v4 v5 v6
  clear z1 hC hb1
  obtain ⟨X, hX⟩ : ∃ X, ofA b = X := ⟨_, rfl⟩
  have HX := Lib.hid hX
  rw [hX]
  clear hX
  go_wp2_with (fail)
  clear v0 v1 v2 v3 v4 v5 v6 f0 f1 f2 f3 f4 f5 f6
  generalize hV : (((((((w1.setCell ⟨w.heap.size, 0, none⟩ (.int .u8 (X.ow : Nat))).setCell ⟨w.heap.size, 1, none⟩ (.int .u8 (X.gr : Nat))).setCell ⟨w.heap.size, 2, none⟩ (.int .u8 (X.ot : Nat))).setCell ⟨w.heap.size, 3, none⟩ (.slice A1 X.us.length c1)).setCell ⟨w.heap.size, 4, none⟩ (.slice B1 X.gs.length d1)).setCell ⟨w.heap.size, 5, none⟩ (.bool X.hm)).setCell ⟨w.heap.size, 6, none⟩ (.int .u8 (X.ms : Nat))) = V
  have hV2 : setAll w1 w.heap.size X ⟨A1, c1, B1, d1⟩ = V := hV
  have z9 := Ab.all ZR.out X ⟨A1, c1, B1, d1⟩
  have b9 := below_all (p := ⟨A1, c1, B1, d1⟩) (HB.out.trans (HB1.out.mono HB.out.size)) (Nat.le_refl w.heap.size) X
  have hfar := HC.out.far
  have hs1 := HS.out
  have c9 := (HC.out.from HB.out.size).all (b := w.heap.size) X ⟨A1, c1, B1, d1⟩ (fun ad e => by have := hfar.1 ad e; omega) (fun ad e => by have := hfar.2 ad e; omega)
  rw [hV2] at z9 c9
  replace b9 : Below w.heap.size w V := hV2 ▸ b9
  clear hV hV2
  obtain ⟨y0, y1, y2, y3, y4, y5, y6⟩ := z9.cells
  simp only at y0 y1 y2 y3 y4 y5 y6
  exact bodyPost_ret (v := Ac.v X ⟨A1, c1, B1, d1⟩) (by simp [results, Try.results19, go_sem, y0, y1, y2, y3, y4, y5, y6]) rfl ⟨⟨A1, c1, B1, d1⟩, by rw [HX.out], HX.out ▸ c9, b9⟩
end Go.Proofs.Ytcjaebcninlhlaa
