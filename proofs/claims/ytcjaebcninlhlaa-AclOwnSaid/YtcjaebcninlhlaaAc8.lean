/- The list of bits; a list's bits turned. -/
import Derived.Test.YtcjaebcninlhlaaAc7
set_option linter.unusedSimpArgs false
set_option linter.unusedVariables false
namespace Go.Proofs.Ytcjaebcninlhlaa
open Go.RowKit Go.Sort Go.Lib
set_option maxRecDepth 100000 in
theorem rof_calls (b : Nat) (w : World) (hb : b < 65536) : Calls Try.prog 20 #[.int .u16 (b : Nat)] w fun e w' => e = .returned ((ofA b).v lieZ) ∧ Below w.heap.size w w' := by
  go_enter Try.func20, Try.ntmps20
  go_wp2_with (fail)
  exact bodyPost_ret (v := (ofA b).v lieZ) (by simp [results, Try.results20, go_sem, ofA]) rfl ⟨rfl, (Below.refl _ _).alloc (Nat.le_refl _) _⟩
section
variable {w w' : World} {x : Ac} {q : Lie}
theorem Copied.set (h : Copied w w' x q) {a : Addr} (v : Value) (h1 : ∀ ad, q.A = some ad → ad.block ≠ a.block) (h2 : ∀ ad, q.B = some ad → ad.block ≠ a.block) : Copied w (w'.setCell a v) x q := ⟨h.us.other v h1, h.gs.other v h2, h.ne⟩
theorem Copied.ch (h : Copied w w' x q) (b : Nat) : Copied w w' (chA x b) q := ⟨h.us, h.gs, h.ne⟩
/-- The rows lie from n on. -/
def Far (n : Nat) (q : Lie) : Prop := (∀ ad, q.A = some ad → n ≤ ad.block) ∧ ∀ ad, q.B = some ad → n ≤ ad.block
theorem Copied.far (h : Copied w w' x q) : Far w.heap.size q := ⟨fun ad e => h.us.2 ad e, fun ad e => h.gs.2 ad e⟩
theorem Copied.below_size (h : Copied w w' x q) : (∀ ad, q.A = some ad → ad.block < w'.heap.size) ∧ ∀ ad, q.B = some ad → ad.block < w'.heap.size := ⟨fun ad e => h.us.1.lt ad e, fun ad e => h.gs.1.lt ad e⟩
theorem Far.mono {m n : Nat} (h : Far n q) (hm : m ≤ n) : Far m q := ⟨fun ad e => Nat.le_trans hm (h.1 ad e), fun ad e => Nat.le_trans hm (h.2 ad e)⟩
theorem setAll_size (g : Nat) : (setAll w g x q).heap.size = w.heap.size := by simp [setAll, World.setCell]
theorem setCell_size (a : Addr) (v : Value) : (w.setCell a v).heap.size = w.heap.size := by simp [World.setCell]
end
set_option maxRecDepth 100000 in
set_option maxHeartbeats 2000000 in
theorem rchmod_calls (x : Ac) (p : Lie) (b : Nat) (w : World) (h : Lies w x p) (hs : Sm x) (hb : b < 65536) : Calls Try.prog 21 #[x.v p, .int .u16 (b : Nat)] w fun e w' => ∃ q, e = .returned ((chA x b).v q) ∧ Copied w w' (chA x b) q ∧ Below w.heap.size w w' := by
  obtain ⟨U, hU⟩ : ∃ U, U = (w.alloc (.cells (x.c p) 24)).alloc (.cells zC 24) := ⟨_, rfl⟩
  obtain ⟨z1, z2⟩ := Ab.two w x p
  replace z1 : Ab U w.heap.size x p := by rw [hU]; exact z1
  replace z2 : Ab U (w.heap.size + 1) acZ lieZ := by rw [hU]; exact z2
  have hbU : Below w.heap.size w U := by rw [hU]; exact ((Below.refl _ _).alloc (Nat.le_refl _) _).alloc (by simp) _
  have hsz : U.heap.size = w.heap.size + 2 := by rw [hU]; simp
  have hcp := rcopy_calls x p U (h.below hbU) hs
  obtain ⟨ow, gr, ot, us, gs, hm, ms⟩ := x
  obtain ⟨A, c, B, d⟩ := p
  clear h hs
  obtain ⟨y0, y1, y2, y3, y4, y5, y6⟩ := z1.cells
  simp only at y0 y1 y2 y3 y4 y5 y6
  have HCP := Lib.hid hcp
  have HZ := Lib.hid hsz
  have HB := Lib.hid hbU
  have HU := Lib.hid hU
  have Z2 := Lib.hid z2
  clear hcp hsz hbU hU z1 z2
  go_enter Try.func21, Try.ntmps21
  go_upto_region 1 with (fail)
  rw [← HU.out]
  clear HU
  go_wp2_with (fail)
  refine HCP.out.mono ?_
  rintro e w1 ⟨⟨A1, c1, B1, d1⟩, rfl, hC, hb1⟩
  clear y0 y1 y2 y3 y4 y5 y6 HCP
  have HC := Lib.hid hC
  have HB1 := Lib.hid hb1
  clear hC hb1
  go_wp2_with (fail)
  obtain ⟨V, hV⟩ : ∃ V, V = w1.alloc (.cells #[.int .u8 (ow : Nat), .int .u8 (gr : Nat), .int .u8 (ot : Nat), .slice A1 us.length c1, .slice B1 gs.length d1, .bool hm, .int .u8 (ms : Nat)] 24) := ⟨_, rfl⟩
  rw [← hV]
  have z5 : Ab V w1.heap.size ⟨ow, gr, ot, us, gs, hm, ms⟩ ⟨A1, c1, B1, d1⟩ := by rw [hV]; exact Ab.new w1 ⟨ow, gr, ot, us, gs, hm, ms⟩ ⟨A1, c1, B1, d1⟩
  have hbV : Below w1.heap.size w1 V := by rw [hV]; exact (Below.refl _ _).alloc (Nat.le_refl _) _
  have HZ5 := Lib.hid z5
  have HBV := Lib.hid hbV
  clear hV z5 hbV
  refine (rof_calls b V hb).mono ?_
  rintro e w2 ⟨rfl, hb2⟩
  have HB2 := Lib.hid hb2
  clear hb2
  unfold ofA Ac.v Ac.c
  simp only
  generalize hi0 : b / 64 % 8 = i0
  generalize hi1 : b / 8 % 8 = i1
  generalize hi2 : b % 8 = i2
  have HI0 := Lib.hid hi0
  have HI1 := Lib.hid hi1
  have HI2 := Lib.hid hi2
  clear hi0 hi1 hi2
  go_upto_region 3 with (fail)
  obtain ⟨T, hT⟩ : ∃ T, T = w2.alloc (.cells #[.int .u8 (i0 : Nat), .int .u8 (i1 : Nat), .int .u8 (i2 : Nat), .slice none 0 0, .slice none 0 0, .bool false, .int .u8 0] 24) := ⟨_, rfl⟩
  rw [← hT]
  have hbT : Below w2.heap.size w2 T := by rw [hT]; exact (Below.refl _ _).alloc (Nat.le_refl _) _
  have z6 : Ab T w2.heap.size ⟨i0, i1, i2, [], [], false, 0⟩ lieZ := by rw [hT]; exact Ab.new w2 ⟨i0, i1, i2, [], [], false, 0⟩ lieZ
  have z5 : Ab T w1.heap.size ⟨ow, gr, ot, us, gs, hm, ms⟩ ⟨A1, c1, B1, d1⟩ := (HZ5.out.on HB2.out).on hbT
  have hVT : Below w1.heap.size w1 T := (HBV.out.trans (HB2.out.mono HBV.out.size)).trans (hbT.mono (Nat.le_trans HBV.out.size HB2.out.size))
  have z4 : Ab T (w.heap.size + 1) acZ lieZ := (Z2.out.on HB1.out).on hVT
  have hCT : Copied w T ⟨ow, gr, ot, us, gs, hm, ms⟩ ⟨A1, c1, B1, d1⟩ := (HC.out.on hVT).from (by have := HZ.out; omega)
  have hbwT : Below w.heap.size w T := (HB.out.trans (HB1.out.mono HB.out.size)).trans (hVT.mono (Nat.le_trans HB.out.size HB1.out.size))
  have q0 := HZ.out
  have q1 := HB1.out.size
  have q2 := HZ5.out.lt
  have q3 := HB2.out.size
  have hfar : Far (w.heap.size + 2) ⟨A1, c1, B1, d1⟩ := HC.out.far.mono (by omega)
  have hnear := HC.out.below_size
  obtain ⟨g5, hg5⟩ : ∃ g, g = w1.heap.size := ⟨_, rfl⟩
  obtain ⟨g6, hg6⟩ : ∃ g, g = w2.heap.size := ⟨_, rfl⟩
  obtain ⟨g4, hg4⟩ : ∃ g, g = w.heap.size + 1 := ⟨_, rfl⟩
  rw [← hg5] at z5 hnear
  rw [← hg6] at z6
  rw [← hg4] at z4
  rw [← hg5, ← hg6, ← hg4]
  have n1 : ¬ g5 = g6 := by omega
  have n2 : ¬ g4 = g5 := by omega
  have n3 : ¬ g4 = g6 := by omega
  have n4 : ¬ g6 = g5 := by omega
  have n5 : ¬ g5 = g4 := by omega
  have n6 : ¬ g6 = g4 := by omega
  have hnf : Hid (∀ a : Nat, (a = g4 ∨ a = g5) → (∀ ad, A1 = some ad → ad.block ≠ a) ∧ ∀ ad, B1 = some ad → ad.block ≠ a) := Lib.hid (fun a ha => ⟨fun ad e => by
      have h1 := hfar.1 ad e
      have h2 := hnear.1 ad e
      omega, fun ad e => by
      have h1 := hfar.2 ad e
      have h2 := hnear.2 ad e
      omega⟩)
  have m5 : w.heap.size ≤ g5 := by omega
  have m4 : w.heap.size ≤ g4 := by omega
  have HM5 := Lib.hid m5
  have HM4 := Lib.hid m4
  have HCT := Lib.hid hCT
  have HBT := Lib.hid hbwT
  have Z4 := Lib.hid z4
  have Z5 := Lib.hid z5
  obtain ⟨y0, y1, y2, y3, y4, y5, y6⟩ := z5.cells
  obtain ⟨u0, u1, u2, u3, u4, u5, u6⟩ := z6.cells
  obtain ⟨v0, v1, v2, v3, v4, v5, v6⟩ := z4.cells
  have f50 := z5.frozen 0
  have f51 := z5.frozen 1
  have f52 := z5.frozen 2
  have f56 := z5.frozen 6
  have f40 := z4.frozen 0
  have f41 := z4.frozen 1
  have f42 := z4.frozen 2
  have f43 := z4.frozen 3
  have f44 := z4.frozen 4
  have f45 := z4.frozen 5
  have f46 := z4.frozen 6
  simp only at y0 y1 y2 y3 y4 y5 y6 u0 u1 u2 u3 u4 u5 u6 v0 v1 v2 v3 v4 v5 v6
  clear hT hbT z6 z5 hVT z4 hCT hbwT q0 q1 q2 q3 hfar hnear hg5 hg6 hg4 m5 m4 HZ5 HBV HB2 HB HB1 HC HZ Z2
  cases hm
  case false =>
    go_wp2_with (fail)
    have hX : chA ⟨ow, gr, ot, us, gs, false, ms⟩ b = ⟨i0, i1, i2, us, gs, false, ms⟩ := by simp [chA, HI0.out, HI1.out, HI2.out]
    obtain ⟨T1, hT1⟩ : ∃ T1, T1 = ((T.setCell ⟨g5, 0, none⟩ (.int .u8 (i0 : Nat))).setCell ⟨g5, 2, none⟩ (.int .u8 (i2 : Nat))).setCell ⟨g5, 1, none⟩ (.int .u8 (i1 : Nat)) := ⟨_, rfl⟩
    rw [← hT1]
    have w5 := hnf.out g5 (.inr rfl)
    have cT : Copied w T1 ⟨ow, gr, ot, us, gs, false, ms⟩ ⟨A1, c1, B1, d1⟩ := by rw [hT1]; exact ((HCT.out.set _ w5.1 w5.2).set _ w5.1 w5.2).set _ w5.1 w5.2
    have zT : Ab T1 g4 acZ lieZ := by rw [hT1]; exact ((Z4.out.other _ n2).other _ n2).other _ n2
    have bT : Below w.heap.size w T1 := by rw [hT1]; exact ((HBT.out.setCell HM5.out _).setCell HM5.out _).setCell HM5.out _
    clear hT1 w5
    clear y0 y1 y2 y3 y4 y5 y6 u0 u1 u2 u3 u4 u5 u6 v0 v1 v2 v3 v4 v5 v6 f50 f51 f52 f56 f40 f41 f42 f43 f44 f45 f46
    generalize hV : (((((((T1.setCell ⟨g4, 0, none⟩ (.int .u8 (i0 : Nat))).setCell ⟨g4, 1, none⟩ (.int .u8 (i1 : Nat))).setCell ⟨g4, 2, none⟩ (.int .u8 (i2 : Nat))).setCell ⟨g4, 3, none⟩ (.slice A1 us.length c1)).setCell ⟨g4, 4, none⟩ (.slice B1 gs.length d1)).setCell ⟨g4, 5, none⟩ (.bool false)).setCell ⟨g4, 6, none⟩ (.int .u8 (ms : Nat))) = V
    have hV2 : setAll T1 g4 ⟨i0, i1, i2, us, gs, false, ms⟩ ⟨A1, c1, B1, d1⟩ = V := hV
    have z9 := Ab.all zT ⟨i0, i1, i2, us, gs, false, ms⟩ ⟨A1, c1, B1, d1⟩
    have b9 := below_all (p := ⟨A1, c1, B1, d1⟩) bT HM4.out ⟨i0, i1, i2, us, gs, false, ms⟩
    have c9 := (cT).all (b := g4) ⟨i0, i1, i2, us, gs, false, ms⟩ ⟨A1, c1, B1, d1⟩ (hnf.out g4 (.inl rfl)).1 (hnf.out g4 (.inl rfl)).2
    rw [hV2] at z9 c9
    replace b9 : Below w.heap.size w V := hV2 ▸ b9
    clear hV hV2
    obtain ⟨y0, y1, y2, y3, y4, y5, y6⟩ := z9.cells
    simp only at y0 y1 y2 y3 y4 y5 y6
    exact bodyPost_ret (v := Ac.v ⟨i0, i1, i2, us, gs, false, ms⟩ ⟨A1, c1, B1, d1⟩) (by simp [results, Try.results21, go_sem, y0, y1, y2, y3, y4, y5, y6]) rfl ⟨⟨A1, c1, B1, d1⟩, by rw [hX], by rw [hX]; exact ⟨c9.us, c9.gs, c9.ne⟩, b9⟩
  case true =>
    go_wp2_with (fail)
    have hX : chA ⟨ow, gr, ot, us, gs, true, ms⟩ b = ⟨i0, gr, i2, us, gs, true, i1⟩ := by simp [chA, HI0.out, HI1.out, HI2.out]
    obtain ⟨T1, hT1⟩ : ∃ T1, T1 = ((T.setCell ⟨g5, 0, none⟩ (.int .u8 (i0 : Nat))).setCell ⟨g5, 2, none⟩ (.int .u8 (i2 : Nat))).setCell ⟨g5, 6, none⟩ (.int .u8 (i1 : Nat)) := ⟨_, rfl⟩
    rw [← hT1]
    have w5 := hnf.out g5 (.inr rfl)
    have cT : Copied w T1 ⟨ow, gr, ot, us, gs, true, ms⟩ ⟨A1, c1, B1, d1⟩ := by rw [hT1]; exact ((HCT.out.set _ w5.1 w5.2).set _ w5.1 w5.2).set _ w5.1 w5.2
    have zT : Ab T1 g4 acZ lieZ := by rw [hT1]; exact ((Z4.out.other _ n2).other _ n2).other _ n2
    have bT : Below w.heap.size w T1 := by rw [hT1]; exact ((HBT.out.setCell HM5.out _).setCell HM5.out _).setCell HM5.out _
    clear hT1 w5
    clear y0 y1 y2 y3 y4 y5 y6 u0 u1 u2 u3 u4 u5 u6 v0 v1 v2 v3 v4 v5 v6 f50 f51 f52 f56 f40 f41 f42 f43 f44 f45 f46
    generalize hV : (((((((T1.setCell ⟨g4, 0, none⟩ (.int .u8 (i0 : Nat))).setCell ⟨g4, 1, none⟩ (.int .u8 (gr : Nat))).setCell ⟨g4, 2, none⟩ (.int .u8 (i2 : Nat))).setCell ⟨g4, 3, none⟩ (.slice A1 us.length c1)).setCell ⟨g4, 4, none⟩ (.slice B1 gs.length d1)).setCell ⟨g4, 5, none⟩ (.bool true)).setCell ⟨g4, 6, none⟩ (.int .u8 (i1 : Nat))) = V
    have hV2 : setAll T1 g4 ⟨i0, gr, i2, us, gs, true, i1⟩ ⟨A1, c1, B1, d1⟩ = V := hV
    have z9 := Ab.all zT ⟨i0, gr, i2, us, gs, true, i1⟩ ⟨A1, c1, B1, d1⟩
    have b9 := below_all (p := ⟨A1, c1, B1, d1⟩) bT HM4.out ⟨i0, gr, i2, us, gs, true, i1⟩
    have c9 := (cT).all (b := g4) ⟨i0, gr, i2, us, gs, true, i1⟩ ⟨A1, c1, B1, d1⟩ (hnf.out g4 (.inl rfl)).1 (hnf.out g4 (.inl rfl)).2
    rw [hV2] at z9 c9
    replace b9 : Below w.heap.size w V := hV2 ▸ b9
    clear hV hV2
    obtain ⟨y0, y1, y2, y3, y4, y5, y6⟩ := z9.cells
    simp only at y0 y1 y2 y3 y4 y5 y6
    exact bodyPost_ret (v := Ac.v ⟨i0, gr, i2, us, gs, true, i1⟩ ⟨A1, c1, B1, d1⟩) (by simp [results, Try.results21, go_sem, y0, y1, y2, y3, y4, y5, y6]) rfl ⟨⟨A1, c1, B1, d1⟩, by rw [hX], by rw [hX]; exact ⟨c9.us, c9.gs, c9.ne⟩, b9⟩
end Go.Proofs.Ytcjaebcninlhlaa
