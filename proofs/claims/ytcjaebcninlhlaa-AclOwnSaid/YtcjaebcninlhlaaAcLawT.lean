/- AclTurns: whatever it is called with, it hands back true. -/
import Derived.Test.YtcjaebcninlhlaaAcLawB
set_option linter.unusedSimpArgs false
set_option linter.unusedVariables false
namespace Go.Proofs.Ytcjaebcninlhlaa
open Go.RowKit
theorem may_ch {x : Ac} (h : May x) (b : Nat) : mayB (chA x b) = true := mayB_iff.2 ⟨by simp only [chA]; omega, by
    have := h.gr
    simp only [chA]
    split <;> omega, by simp only [chA]; omega, by
    have := h.ms
    simp only [chA]
    split <;> omega, h.us, h.gs, fun hm => by
    obtain ⟨h1, h2, h3⟩ := h.small hm
    have hm' : x.hm = false := hm
    refine ⟨?_, h2, h3⟩
    simp only [chA, hm']
    simpa using h1⟩
theorem bits_ch (x : Ac) (b : Nat) : bitsN (chA x b) = b % 512 := by
  have e : cls (chA x b) = b / 8 % 8 := by
    unfold cls chA
    cases x.hm <;> simp
  unfold bitsN
  rw [e]
  show b / 64 % 8 % 8 * 64 + b / 8 % 8 % 8 * 8 + b % 8 % 8 = b % 512
  omega
theorem ch_ch (x : Ac) (b m : Nat) : chA (chA x b) m = chA x m := by
  unfold chA
  cases x.hm <;> simp
theorem ch_mod (x : Ac) (b : Nat) : chA (chA x b) (b % 512) = chA x b := by
  rw [ch_ch]
  have e1 : b % 512 / 64 % 8 = b / 64 % 8 := by omega
  have e2 : b % 512 / 8 % 8 = b / 8 % 8 := by omega
  have e3 : b % 512 % 8 = b % 8 := by omega
  unfold chA
  rw [e1, e2, e3]
theorem nb_ch {x : Ac} (h : Nb x) (b : Nat) : Nb (chA x b) := ⟨by simp only [chA]; omega, by
    have := h.gr
    simp only [chA]
    split <;> omega, by simp only [chA]; omega, by
    have := h.ms
    simp only [chA]
    split <;> omega, h.pm⟩
section
variable {W : World} {g : Nat} {x : Ac} {c : Lie} {b : Nat}
/-- The numbers that Chmod turned, turned back. -/
theorem Ab.back0 (h : Ab W g (chA x b) c) (hm : x.hm = false) : Ab ((((W.setCell ⟨g, 0, none⟩ (.int .u8 (x.ow : Nat))).setCell ⟨g, 2, none⟩ (.int .u8 (x.ot : Nat))).setCell ⟨g, 6, none⟩ (.int .u8 (x.ms : Nat))).setCell ⟨g, 1, none⟩ (.int .u8 (x.gr : Nat))) g x c := by
  have h7 := set_cell (set_cell (set_cell (set_cell h 0 (.int .u8 (x.ow : Nat))) 2 (.int .u8 (x.ot : Nat))) 6 (.int .u8 (x.ms : Nat))) 1 (.int .u8 (x.gr : Nat))
  obtain ⟨ow, gr, ot, us, gs, m, ms⟩ := x
  simp only at hm
  subst hm
  unfold Ab
  simpa [chA] using h7
theorem Ab.back1 (h : Ab W g (chA x b) c) (hm : x.hm = true) : Ab (((W.setCell ⟨g, 0, none⟩ (.int .u8 (x.ow : Nat))).setCell ⟨g, 2, none⟩ (.int .u8 (x.ot : Nat))).setCell ⟨g, 6, none⟩ (.int .u8 (x.ms : Nat))) g x c := by
  have h7 := set_cell (set_cell (set_cell h 0 (.int .u8 (x.ow : Nat))) 2 (.int .u8 (x.ot : Nat))) 6 (.int .u8 (x.ms : Nat))
  obtain ⟨ow, gr, ot, us, gs, m, ms⟩ := x
  simp only at hm
  subst hm
  unfold Ab
  simpa [chA] using h7
/-- Rows elsewhere. -/
def Off (g : Nat) (y : Ac) (r : Lie) : Prop := (∀ ad, r.A = some ad → 0 < (nv y.us).length → ad.block ≠ g) ∧ ∀ ad, r.B = some ad → 0 < (nv y.gs).length → ad.block ≠ g
theorem Lies.other {y : Ac} {r : Lie} (h : Lies W y r) (ho : Off g y r) (k : Nat) (v : Value) : Lies (W.setCell ⟨g, k, none⟩ v) y r := ⟨h.us.other v ho.1, h.gs.other v ho.2⟩
theorem Lies.off {y : Ac} {r : Lie} (h : Lies W y r) (hg : W.heap.size ≤ g) : Off g y r :=
  ⟨fun ad e h0 => by obtain ⟨a, e', hl, _⟩ := h.us h0; rw [e] at e'; injection e' with e'; subst e'; omega, fun ad e h0 => by obtain ⟨a, e', hl, _⟩ := h.gs h0; rw [e] at e'; injection e' with e'; subst e'; omega⟩
end
set_option maxRecDepth 100000 in
set_option maxHeartbeats 8000000 in
theorem turns_law (x : Ac) (p : Lie) (b m : Nat) (w : World) (h : Lies w x p) (hs : Bg x) (hx : Nb x) (hb : b < 65536) (hm : m < 65536) :
    Calls Try.prog 5 #[x.v p, .int .u16 (b : Nat), .int .u16 (m : Nat)] w fun e w' => e = .returned (.bool true) ∧ Below w.heap.size w w' := by
  have HH := Lib.hid h
  have HBB := Lib.hid hb
  have HMM := Lib.hid hm
  clear hm
  obtain ⟨U, hU⟩ : ∃ U, U = w.alloc (.cells (x.c p) 24) := ⟨_, rfl⟩
  have z := Ab.new w x p
  have hbU : Below w.heap.size w (w.alloc (.cells (x.c p) 24)) := (Below.refl _ _).alloc (Nat.le_refl _) _
  rw [← hU] at z hbU
  obtain ⟨bx, hbx⟩ : ∃ g, g = w.heap.size := ⟨_, rfl⟩
  have HLI := Lib.hid (h.below hbU)
  have HBU := Lib.hid hbU
  obtain ⟨lg, hlg⟩ : ∃ lg, (decide (100 < x.us.length) || decide (100 < x.gs.length)) = lg := ⟨_, rfl⟩
  have hla := large_calls x p U hs
  rw [hlg] at hla
  have HLA := Lib.hid hla
  have HLG := Lib.hid hlg
  have HNB := Lib.hid hx
  have HU := Lib.hid hU
  rw [← hbx] at z
  have HZ := Lib.hid z
  have HBX := Lib.hid hbx
  have HBS := Lib.hid hbx
  clear h hs hx hlg hla hU z hbU hbx
  go_enter Try.func5, Try.ntmps5
  go_upto_region 1 with (fail)
  rw [← HU.out, ← HBX.out]
  clear HU HBX
  obtain ⟨y0, y1, y2, y3, y4, y5, y6⟩ := HZ.out.cells
  go_wp2_with (fail)
  refine HLA.out.mono ?_
  rintro e w1 ⟨rfl, hb1⟩
  clear y0 y1 y2 y3 y4 y5 y6 HLA
  have HZ1 := Lib.hid (HZ.out.on hb1)
  have HL1 := Lib.hid (HLI.out.below hb1)
  have HB1 := Lib.hid (HBU.out.trans (hb1.mono HBU.out.size))
  clear hb1 HZ HLI HBU
  cases lg
  case true =>
    go_wp2_with (fail)
    refine (alive_calls _).mono ?_
    rintro e w2 ⟨rfl, hb2⟩
    have HB2 := Lib.hid (HB1.out.trans (hb2.mono HB1.out.size))
    clear hb2 HB1
    go_wp2_with (fail)
    go_ret
    exact ⟨rfl, HB2.out⟩
  case false =>
  have HSM : Hid (Sm x) := Lib.hid (sm_of_small HLG.out)
  obtain ⟨y0, y1, y2, y3, y4, y5, y6⟩ := HZ1.out.cells
  go_wp2_with (fail)
  clear y0 y1 y2 y3 y4 y5 y6
  refine (rcopy_calls x p w1 HL1.out HSM.out).mono ?_
  rintro e w2 ⟨o, rfl, hC, hb2⟩
  have HLO := Lib.hid hC.lies
  have HX2 := Lib.hid ((Held.mk HZ1.out HL1.out).on hb2)
  have HB2 := Lib.hid (HB1.out.trans (hb2.mono HB1.out.size))
  clear hC hb2 HZ1 HL1 HB1
  have hck := check_calls x o w2 HLO.out HSM.out
  cases hmy : mayB x
  case false =>
    rw [hmy] at hck
    have HCK := Lib.hid hck
    clear hmy hck
    go_wp2_with (fail)
    refine HCK.out.mono ?_
    rintro e w3 ⟨rfl, hb3⟩
    have HB3 := Lib.hid (HB2.out.trans (hb3.mono HB2.out.size))
    clear hb3 HB2 HCK
    go_wp2_with (fail)
    refine (alive_calls _).mono ?_
    rintro e w4 ⟨rfl, hb4⟩
    have HB4 := Lib.hid (HB3.out.trans (hb4.mono HB3.out.size))
    clear hb4 HB3
    go_wp2_with (fail)
    go_ret
    exact ⟨rfl, HB4.out⟩
  case true =>
  have hmay := mayB_iff.1 hmy
  rw [hmy] at hck
  have HCK := Lib.hid hck
  have HMY := Lib.hid hmay
  clear hmy hck hmay
  go_wp2_with (fail)
  refine HCK.out.mono ?_
  rintro e w3 ⟨rfl, hb3⟩
  have HX3 := Lib.hid (HX2.out.on hb3)
  have HB3 := Lib.hid (HB2.out.trans (hb3.mono HB2.out.size))
  clear hb3 HB2 HX2 HCK HLO
  obtain ⟨X, hX⟩ : ∃ X, chA x b = X := ⟨_, rfl⟩
  obtain ⟨Y, hY⟩ : ∃ Y, chA x m = Y := ⟨_, rfl⟩
  have HSX : Hid (Sm X) := Lib.hid (hX ▸ sm_ch HSM.out b)
  have HSY : Hid (Sm Y) := Lib.hid (hY ▸ sm_ch HSM.out m)
  have HNX : Hid (Nb X) := Lib.hid (hX ▸ nb_ch HNB.out b)
  have HC1 : Hid (∀ (u : World) (o : Lie), Lies u x o → Calls Try.prog 16 #[x.v o, .int .u16 (b : Nat)] u fun e w' => ∃ q, e = .returned (X.v q) ∧ Copied u w' X q ∧ Below u.heap.size u w') := Lib.hid (fun u o hl => hX ▸ chmod_calls x o b u hl HSM.out HBB.out)
  have HC2 : Hid (∀ (u : World) (o : Lie), Lies u X o → Calls Try.prog 16 #[X.v o, .int .u16 (m : Nat)] u fun e w' => ∃ q, e = .returned (Y.v q) ∧ Copied u w' Y q ∧ Below u.heap.size u w') := Lib.hid (fun u o hl => by
    have c := chmod_calls X o m u hl HSX.out HMM.out
    rw [← hX, ch_ch, hY, hX] at c
    exact c)
  have HC3 : Hid (∀ (u : World) (o : Lie), Lies u x o → Calls Try.prog 16 #[x.v o, .int .u16 (m : Nat)] u fun e w' => ∃ q, e = .returned (Y.v q) ∧ Copied u w' Y q ∧ Below u.heap.size u w') := Lib.hid (fun u o hl => hY ▸ chmod_calls x o m u hl HSM.out HMM.out)
  have HC4 : Hid (∀ (u : World) (o : Lie), Lies u X o → Calls Try.prog 16 #[X.v o, .int .u16 ((b : Int) % 512)] u fun e w' => ∃ q, e = .returned (X.v q) ∧ Copied u w' X q ∧ Below u.heap.size u w') := Lib.hid (fun u o hl => by
    have c := chmod_calls X o (b % 512) u hl HSX.out (by omega)
    rw [← hX, ch_mod, hX] at c
    rw [show ((b : Int) % 512) = ((b % 512 : Nat) : Int) by omega]
    exact c)
  have HK : Hid (∀ (u : World) (o : Lie), Lies u X o → Calls Try.prog 11 #[X.v o] u fun e w' => e = .returned (.int .i64 0) ∧ Below u.heap.size u w') := Lib.hid (fun u o hl => by
    have c := check_calls X o u hl HSX.out
    rw [← hX, may_ch HMY.out, hX] at c
    exact c)
  have HBI : Hid (∀ (u : World) (o : Lie), Calls Try.prog 17 #[X.v o] u fun e w' => e = .returned (.int .u16 ((b : Int) % 512)) ∧ Below u.heap.size u w') := Lib.hid (fun u o => by
    have c := bits_calls X o u HNX.out
    rw [← hX, bits_ch, hX] at c
    rw [show ((b : Int) % 512) = ((b % 512 : Nat) : Int) by omega]
    exact c)
  have HXX := Lib.hid hX
  clear hX hY
  obtain ⟨y0, y1, y2, y3, y4, y5, y6⟩ := HX3.out.blk.cells
  go_wp2_with (fail)
  clear y0 y1 y2 y3 y4 y5 y6
  refine (rcopy_calls x p w3 HX3.out.row HSM.out).mono ?_
  rintro e w4 ⟨o, rfl, hC, hb⟩
  have HLO := Lib.hid hC.lies
  have HX4 := Lib.hid (HX3.out.on hb)
  have HB4 := Lib.hid (HB3.out.trans (hb.mono HB3.out.size))
  clear hC hb HX3 HB3
  go_wp2_with (fail)
  refine (HC1.out w4 o HLO.out).mono ?_
  rintro e w5 ⟨c, rfl, hC, hb⟩
  have HC0 := Lib.hid (Held.new hC.lies)
  have HBZ := Lib.hid hC.below_size
  have HX5 := Lib.hid (HX4.out.on hb)
  have HB5 := Lib.hid (HB4.out.trans (hb.mono HB4.out.size))
  clear hC hb HLO HX4 HB4
  go_upto_region 4 with (fail)
  obtain ⟨w6, hV⟩ : ∃ V, V = w5.alloc (.cells (X.c c) 24) := ⟨_, rfl⟩
  have hbV := below_new w5 X c
  rw [← hV] at hbV
  have HX6 := Lib.hid (HX5.out.on hbV)
  have HU6 : Hid (Held w6 w5.heap.size X c) := Lib.hid (by rw [hV]; exact HC0.out)
  have HB6 := Lib.hid (HB5.out.trans (hbV.mono HB5.out.size))
  obtain ⟨g7, hg⟩ : ∃ g, g = w5.heap.size := ⟨_, rfl⟩
  rw [← hV, ← hg]
  rw [← hg] at HU6
  rw [← hg] at HBZ
  have hge := HX5.out.blk.lt
  rw [← hg] at hge
  have HGE := Lib.hid hge
  clear hge
  clear hV hbV hg HC0 HX5 HB5
  obtain ⟨y0, y1, y2, y3, y4, y5, y6⟩ := HU6.out.blk.cells
  go_wp2_with (fail)
  clear y0 y1 y2 y3 y4 y5 y6
  refine (rcopy_calls X c w6 HU6.out.row HSX.out).mono ?_
  rintro e w7 ⟨o, rfl, hC, hb⟩
  have HLO := Lib.hid hC.lies
  have HX7 := Lib.hid (HX6.out.on hb)
  have HU7 := Lib.hid (HU6.out.on hb)
  have HB7 := Lib.hid (HB6.out.trans (hb.mono HB6.out.size))
  clear hC hb HX6 HU6 HB6
  go_wp2_with (fail)
  refine (HC2.out w7 o HLO.out).mono ?_
  rintro e w8 ⟨c2, rfl, hC, hb⟩
  have HC0 := Lib.hid (Held.new hC.lies)
  have HX8 := Lib.hid (HX7.out.on hb)
  have HU8 := Lib.hid (HU7.out.on hb)
  have HB8 := Lib.hid (HB7.out.trans (hb.mono HB7.out.size))
  clear hC hb HLO HX7 HU7 HB7
  go_upto_region 5 with (fail)
  obtain ⟨w9, hV⟩ : ∃ V, V = w8.alloc (.cells (Y.c c2) 24) := ⟨_, rfl⟩
  have hbV := below_new w8 Y c2
  rw [← hV] at hbV
  have HX9 := Lib.hid (HX8.out.on hbV)
  have HU9 := Lib.hid (HU8.out.on hbV)
  have HV9 : Hid (Held w9 w8.heap.size Y c2) := Lib.hid (by rw [hV]; exact HC0.out)
  have HB9 := Lib.hid (HB8.out.trans (hbV.mono HB8.out.size))
  obtain ⟨g8, hg⟩ : ∃ g, g = w8.heap.size := ⟨_, rfl⟩
  rw [← hV, ← hg]
  rw [← hg] at HV9
  clear hV hbV hg HC0 HX8 HU8 HB8
  obtain ⟨y0, y1, y2, y3, y4, y5, y6⟩ := HX9.out.blk.cells
  go_wp2_with (fail)
  clear y0 y1 y2 y3 y4 y5 y6
  refine (rcopy_calls x p w9 HX9.out.row HSM.out).mono ?_
  rintro e w10 ⟨o, rfl, hC, hb⟩
  have HLO := Lib.hid hC.lies
  have HX10 := Lib.hid (HX9.out.on hb)
  have HU10 := Lib.hid (HU9.out.on hb)
  have HV10 := Lib.hid (HV9.out.on hb)
  have HB10 := Lib.hid (HB9.out.trans (hb.mono HB9.out.size))
  clear hC hb HX9 HU9 HV9 HB9
  go_wp2_with (fail)
  refine (HC3.out w10 o HLO.out).mono ?_
  rintro e w11 ⟨c3, rfl, hC, hb⟩
  have HC0 := Lib.hid (Held.new hC.lies)
  have HX11 := Lib.hid (HX10.out.on hb)
  have HU11 := Lib.hid (HU10.out.on hb)
  have HV11 := Lib.hid (HV10.out.on hb)
  have HB11 := Lib.hid (HB10.out.trans (hb.mono HB10.out.size))
  clear hC hb HLO HX10 HU10 HV10 HB10
  go_upto_region 6 with (fail)
  obtain ⟨w12, hV⟩ : ∃ V, V = w11.alloc (.cells (Y.c c3) 24) := ⟨_, rfl⟩
  have hbV := below_new w11 Y c3
  rw [← hV] at hbV
  have HX12 := Lib.hid (HX11.out.on hbV)
  have HU12 := Lib.hid (HU11.out.on hbV)
  have HV12 := Lib.hid (HV11.out.on hbV)
  have HT12 : Hid (Held w12 w11.heap.size Y c3) := Lib.hid (by rw [hV]; exact HC0.out)
  have HB12 := Lib.hid (HB11.out.trans (hbV.mono HB11.out.size))
  obtain ⟨g9, hg⟩ : ∃ g, g = w11.heap.size := ⟨_, rfl⟩
  rw [← hV, ← hg]
  rw [← hg] at HT12
  clear hV hbV hg HC0 HX11 HU11 HV11 HB11
  clear hb
  have HTM : Hid ((b : Int).tmod 512 = (b : Int) % 512) := Lib.hid (Int.tmod_eq_emod_of_nonneg (by omega))
  refine wp_region4 [.val (X.v c), .val (.int .i64 0), .val (.bool false), .val (.bool false), .val (X.v c), .val (.int .u16 ((b : Int) % 512)), .val (.int .u16 (b : Nat)), .val (.int .u16 ((b : Int) % 512)), .val (.bool false), .val (.bool false), .val (.bool false), .val (Y.v c2), .val (Y.v c3), .val (.bool true), .val (.bool false), .val (.bool false), .val (.bool false), .val (X.v c), .val (X.v c), .val (.int .u16 ((b : Int) % 512)), .acl X, .val (X.v c), .val (.bool true), .val (.bool false), .val (.bool false)] (by kernel_rfl) (by kernel_rfl) (by kernel_rfl) ?steps ?rest
  case steps =>
    refine ⟨?s0, ?s1, ?s2, ?s3, ?s4, ?s5, ?s6, ?s7, ?s8, ?s9, ?s10, ?s11, ?s12, ?s13, ?s14, ?s15, ?s16, ?s17, ?s18, ?s19, ?s20, ?s21, ?s22, ?s23, ?s24, trivial⟩
    case s0 =>
      refine st4_val _ rfl (.inl rfl) fun a u hb hA hd => ?_
      exact run_loadA rfl g7 X c (hA.eval 7 rfl) (HU12.out.blk.on hb)
    case s1 =>
      refine st4_call _ rfl (.inl rfl) 11 fun a u hb hA hd => ?_
      have k0 := ev_of (show a.eval (.tmp 31) = X.v c from hd 0 31 rfl rfl _ rfl)
      refine ⟨#[X.v c], ?_, (HK.out u c (HU12.out.on hb).row).mono ?_⟩
      · unfold execOp
        simp [go_sem, k0]
      · rintro e w' ⟨rfl, hb'⟩
        exact ⟨_, rfl, rfl, hb'⟩
    case s2 =>
      exact st4_val _ rfl (.inl rfl) fun a u hb hA hd => by
        have q0 := ev_of (hd 1 32 rfl rfl _ rfl)
        unfold execOp
        simp [go_sem, q0]
    case s3 => exact st4_move 2 33 rfl (.inl rfl) rfl rfl rfl
    case s4 =>
      refine st4_val _ rfl (.inr ⟨3, 34, false, rfl, rfl, rfl, rfl⟩) fun a u hb hA hd => ?_
      exact run_loadA rfl g7 X c (hA.eval 7 rfl) (HU12.out.blk.on hb)
    case s5 =>
      refine st4_call _ rfl (.inr ⟨3, 34, false, rfl, rfl, rfl, rfl⟩) 17 fun a u hb hA hd => ?_
      have k0 := ev_of (show a.eval (.tmp 35) = X.v c from hd 4 35 rfl rfl _ rfl)
      refine ⟨#[X.v c], ?_, (HBI.out u c).mono ?_⟩
      · unfold execOp
        simp [go_sem, k0]
      · rintro e w' ⟨rfl, hb'⟩
        exact ⟨_, rfl, rfl, hb'⟩
    case s6 =>
      exact st4_val _ rfl (.inr ⟨3, 34, false, rfl, rfl, rfl, rfl⟩) fun a u hb hA hd => by
        have q0 := ev_of (show a.eval (.tmp 1) = (.int .u16 (b : Nat)) from hA.eval 1 rfl)
        unfold execOp
        simp [go_sem, q0]
    case s7 =>
      exact st4_val _ rfl (.inr ⟨3, 34, false, rfl, rfl, rfl, rfl⟩) fun a u hb hA hd => by
        have q0 := ev_of (hd 6 37 rfl rfl _ rfl)
        unfold execOp
        simp [go_sem, q0, HTM.out]
    case s8 =>
      exact st4_val _ rfl (.inr ⟨3, 34, false, rfl, rfl, rfl, rfl⟩) fun a u hb hA hd => by
        have q0 := ev_of (hd 5 36 rfl rfl _ rfl)
        have q1 := ev_of (hd 7 38 rfl rfl _ rfl)
        unfold execOp
        simp [go_sem, q0, q1]
    case s9 => exact st4_val _ rfl (.inl rfl) fun a u hb hA hd => (run_pickF rfl (hd 3 34 rfl rfl _ rfl)).trans (by rw [hd 8 39 rfl rfl _ rfl])
    case s10 => exact st4_move 9 40 rfl (.inl rfl) rfl rfl rfl
    case s11 =>
      refine st4_val _ rfl (.inr ⟨10, 41, false, rfl, rfl, rfl, rfl⟩) fun a u hb hA hd => ?_
      exact run_loadA rfl g8 Y c2 (hA.eval 8 rfl) (HV12.out.blk.on hb)
    case s12 =>
      refine st4_val _ rfl (.inr ⟨10, 41, false, rfl, rfl, rfl, rfl⟩) fun a u hb hA hd => ?_
      exact run_loadA rfl g9 Y c3 (hA.eval 9 rfl) (HT12.out.blk.on hb)
    case s13 =>
      refine st4_call _ rfl (.inr ⟨10, 41, false, rfl, rfl, rfl, rfl⟩) 13 fun a u hb hA hd => ?_
      have k0 := ev_of (show a.eval (.tmp 42) = Y.v c2 from hd 11 42 rfl rfl _ rfl)
      have k1 := ev_of (show a.eval (.tmp 43) = Y.v c3 from hd 12 43 rfl rfl _ rfl)
      refine ⟨#[Y.v c2, Y.v c3], ?_, (lsame_self Y c2 c3 u (HV12.out.on hb).row (HT12.out.on hb).row HSY.out).mono ?_⟩
      · unfold execOp
        simp [go_sem, k0, k1]
      · rintro e w' ⟨rfl, hb'⟩
        exact ⟨_, rfl, rfl, hb'⟩
    case s14 =>
      exact st4_val _ rfl (.inr ⟨10, 41, false, rfl, rfl, rfl, rfl⟩) fun a u hb hA hd => by
        have q0 := ev_of (hd 13 44 rfl rfl _ rfl)
        unfold execOp
        simp [go_sem, q0]
    case s15 => exact st4_val _ rfl (.inl rfl) fun a u hb hA hd => (run_pickF rfl (hd 10 41 rfl rfl _ rfl)).trans (by rw [hd 14 45 rfl rfl _ rfl])
    case s16 => exact st4_move 15 46 rfl (.inl rfl) rfl rfl rfl
    case s17 =>
      refine st4_val _ rfl (.inr ⟨16, 47, false, rfl, rfl, rfl, rfl⟩) fun a u hb hA hd => ?_
      exact run_loadA rfl g7 X c (hA.eval 7 rfl) (HU12.out.blk.on hb)
    case s18 =>
      refine st4_val _ rfl (.inr ⟨16, 47, false, rfl, rfl, rfl, rfl⟩) fun a u hb hA hd => ?_
      exact run_loadA rfl g7 X c (hA.eval 7 rfl) (HU12.out.blk.on hb)
    case s19 =>
      refine st4_call _ rfl (.inr ⟨16, 47, false, rfl, rfl, rfl, rfl⟩) 17 fun a u hb hA hd => ?_
      have k0 := ev_of (show a.eval (.tmp 49) = X.v c from hd 18 49 rfl rfl _ rfl)
      refine ⟨#[X.v c], ?_, (HBI.out u c).mono ?_⟩
      · unfold execOp
        simp [go_sem, k0]
      · rintro e w' ⟨rfl, hb'⟩
        exact ⟨_, rfl, rfl, hb'⟩
    case s20 =>
      refine st4_call _ rfl (.inr ⟨16, 47, false, rfl, rfl, rfl, rfl⟩) 16 fun a u hb hA hd => ?_
      have k0 := ev_of (show a.eval (.tmp 48) = X.v c from hd 17 48 rfl rfl _ rfl)
      have k1 := ev_of (show a.eval (.tmp 50) = .int .u16 ((b : Int) % 512) from hd 19 50 rfl rfl _ rfl)
      refine ⟨#[X.v c, .int .u16 ((b : Int) % 512)], ?_, (HC4.out u c (HU12.out.on hb).row).mono ?_⟩
      · unfold execOp
        simp [go_sem, k0, k1]
      · rintro e w' ⟨q, rfl, hC, hb'⟩
        exact ⟨_, rfl, ⟨q, rfl, hC.lies⟩, hb'⟩
    case s21 =>
      refine st4_val _ rfl (.inr ⟨16, 47, false, rfl, rfl, rfl, rfl⟩) fun a u hb hA hd => ?_
      exact run_loadA rfl g7 X c (hA.eval 7 rfl) (HU12.out.blk.on hb)
    case s22 =>
      refine st4_call _ rfl (.inr ⟨16, 47, false, rfl, rfl, rfl, rfl⟩) 13 fun a u hb hA hd => ?_
      obtain ⟨q0, e0, hl0⟩ := (show ∃ p, a.eval (.tmp 51) = Ac.v X p ∧ Lies u X p from hd 20 51 rfl rfl _ rfl)
      have k0 := ev_of e0
      have k1 := ev_of (show a.eval (.tmp 52) = X.v c from hd 21 52 rfl rfl _ rfl)
      refine ⟨#[X.v q0, X.v c], ?_, (lsame_self X q0 c u hl0 (HU12.out.on hb).row HSX.out).mono ?_⟩
      · unfold execOp
        simp [go_sem, k0, k1]
      · rintro e w' ⟨rfl, hb'⟩
        exact ⟨_, rfl, rfl, hb'⟩
    case s23 =>
      exact st4_val _ rfl (.inr ⟨16, 47, false, rfl, rfl, rfl, rfl⟩) fun a u hb hA hd => by
        have q0 := ev_of (hd 22 53 rfl rfl _ rfl)
        unfold execOp
        simp [go_sem, q0]
    case s24 => exact st4_val _ rfl (.inl rfl) fun a u hb hA hd => (run_pickF rfl (hd 16 47 rfl rfl _ rfl)).trans (by rw [hd 23 54 rfl rfl _ rfl])
  case rest =>
    intro vs u hb hR
    have ee : vs 24 = .bool false := hR 24 (by decide)
    simp only [putsFrom, Act.put, List.setIfInBounds_toArray, List.set_cons_succ, List.set_cons_zero, ee]
    generalize vs 0 = z0
    generalize vs 1 = z1
    generalize vs 2 = z2
    generalize vs 3 = z3
    generalize vs 4 = z4
    generalize vs 5 = z5
    generalize vs 6 = z6
    generalize vs 7 = z7
    generalize vs 8 = z8
    generalize vs 9 = z9
    generalize vs 10 = z10
    generalize vs 11 = z11
    generalize vs 12 = z12
    generalize vs 13 = z13
    generalize vs 14 = z14
    generalize vs 15 = z15
    generalize vs 16 = z16
    generalize vs 17 = z17
    generalize vs 18 = z18
    generalize vs 19 = z19
    generalize vs 20 = z20
    generalize vs 21 = z21
    generalize vs 22 = z22
    generalize vs 23 = z23
    have HB := Lib.hid (HB12.out.trans (hb.mono HB12.out.size))
    have HX := Lib.hid (HX12.out.on hb)
    have HU := Lib.hid (HU12.out.on hb)
    clear hR ee hb HB12 HX12 HU12 HV12 HT12 HC1 HC2 HC3 HC4 HK HBI HMY HSY HNX HSX
    obtain ⟨y0, y1, y2, y3, y4, y5, y6⟩ := HX.out.blk.cells
    obtain ⟨v0, v1, v2, v3, v4, v5, v6⟩ := HU.out.blk.cells
    have f0 := HU.out.blk.frozen 0
    have f1 := HU.out.blk.frozen 1
    have f2 := HU.out.blk.frozen 2
    have f6 := HU.out.blk.frozen 6
    have hbg : bx < g7 := HGE.out
    have n1 : ¬ bx = g7 := by omega
    have n2 : ¬ g7 = bx := by omega
    have hw7 : w.heap.size ≤ g7 := by have := HBS.out; omega
    have HW7 := Lib.hid hw7
    have ho1 : Off g7 x p := HH.out.off hw7
    have ho2 : Off g7 X c := ⟨fun ad e _ => by have := HBZ.out.1 ad e; omega, fun ad e _ => by have := HBZ.out.2 ad e; omega⟩
    have HO1 := Lib.hid ho1
    have HO2 := Lib.hid ho2
    clear ho1 ho2 hw7 hbg
    cases hmm : x.hm
    case false =>
      have HMX := Lib.hid hmm
      have y5' : u.cell? ⟨bx, 5, none⟩ = some (.bool false) := by rw [← hmm]; exact y5
      clear y5 hmm
      go_upto_region 13 with (fail)
      obtain ⟨V, hV⟩ : ∃ V, V = (((u.setCell ⟨g7, 0, none⟩ (.int .u8 (x.ow : Nat))).setCell ⟨g7, 2, none⟩ (.int .u8 (x.ot : Nat))).setCell ⟨g7, 6, none⟩ (.int .u8 (x.ms : Nat))).setCell ⟨g7, 1, none⟩ (.int .u8 (x.gr : Nat)) := ⟨_, rfl⟩
      rw [← hV]
      have hbx2 : Ab V bx x p := by rw [hV]; exact (((HX.out.blk.other _ n1).other _ n1).other _ n1).other _ n1
      have hg2 : Ab V g7 x c := by rw [hV]; exact Ab.back0 (b := b) (by rw [HXX.out]; exact HU.out.blk) HMX.out
      have hr1 : Lies V x p := by rw [hV]; exact (((HX.out.row.other HO1.out _ _).other HO1.out _ _).other HO1.out _ _).other HO1.out _ _
      have hr2 : Lies V x c := by
        have : Lies V X c := by rw [hV]; exact (((HU.out.row.other HO2.out _ _).other HO2.out _ _).other HO2.out _ _).other HO2.out _ _
        rw [← HXX.out] at this
        exact ⟨this.us, this.gs⟩
      have hlow : Below w.heap.size w V := by rw [hV]; exact (((HB.out.setCell HW7.out _).setCell HW7.out _).setCell HW7.out _).setCell HW7.out _
      have HX2 := Lib.hid (Held.mk hbx2 hr1)
      have HU2 := Lib.hid (Held.mk hg2 hr2)
      have HL2 := Lib.hid hlow
      clear hV hbx2 hg2 hr1 hr2 hlow y0 y1 y2 y3 y4 y5' y6 v0 v1 v2 v3 v4 v5 v6 f0 f1 f2 f6 n1 n2
      obtain ⟨y0, y1, y2, y3, y4, y5, y6⟩ := HX2.out.blk.cells
      obtain ⟨v0, v1, v2, v3, v4, v5, v6⟩ := HU2.out.blk.cells
      go_wp2_with (fail)
      clear y0 y1 y2 y3 y4 y5 y6 v0 v1 v2 v3 v4 v5 v6
      refine (rlsame_self x c p V HU2.out.row HX2.out.row HSM.out).mono ?_
      rintro e z1 ⟨rfl, hb⟩
      have HZ1 := Lib.hid (HL2.out.trans (hb.mono HL2.out.size))
      clear hb
      go_wp2_with (fail)
      refine (alive_calls z1).mono ?_
      rintro e z2 ⟨rfl, hb⟩
      have HZ2 := Lib.hid (HZ1.out.trans (hb.mono HZ1.out.size))
      clear hb
      go_wp2_with (fail)
      go_ret
      exact ⟨rfl, HZ2.out⟩
    case true =>
      have HMX := Lib.hid hmm
      have y5' : u.cell? ⟨bx, 5, none⟩ = some (.bool true) := by rw [← hmm]; exact y5
      clear y5 hmm
      go_upto_region 13 with (fail)
      obtain ⟨V, hV⟩ : ∃ V, V = ((u.setCell ⟨g7, 0, none⟩ (.int .u8 (x.ow : Nat))).setCell ⟨g7, 2, none⟩ (.int .u8 (x.ot : Nat))).setCell ⟨g7, 6, none⟩ (.int .u8 (x.ms : Nat)) := ⟨_, rfl⟩
      rw [← hV]
      have hbx2 : Ab V bx x p := by rw [hV]; exact ((HX.out.blk.other _ n1).other _ n1).other _ n1
      have hg2 : Ab V g7 x c := by rw [hV]; exact Ab.back1 (b := b) (by rw [HXX.out]; exact HU.out.blk) HMX.out
      have hr1 : Lies V x p := by rw [hV]; exact ((HX.out.row.other HO1.out _ _).other HO1.out _ _).other HO1.out _ _
      have hr2 : Lies V x c := by
        have : Lies V X c := by rw [hV]; exact ((HU.out.row.other HO2.out _ _).other HO2.out _ _).other HO2.out _ _
        rw [← HXX.out] at this
        exact ⟨this.us, this.gs⟩
      have hlow : Below w.heap.size w V := by rw [hV]; exact ((HB.out.setCell HW7.out _).setCell HW7.out _).setCell HW7.out _
      have HX2 := Lib.hid (Held.mk hbx2 hr1)
      have HU2 := Lib.hid (Held.mk hg2 hr2)
      have HL2 := Lib.hid hlow
      clear hV hbx2 hg2 hr1 hr2 hlow y0 y1 y2 y3 y4 y5' y6 v0 v1 v2 v3 v4 v5 v6 f0 f1 f2 f6 n1 n2
      obtain ⟨y0, y1, y2, y3, y4, y5, y6⟩ := HX2.out.blk.cells
      obtain ⟨v0, v1, v2, v3, v4, v5, v6⟩ := HU2.out.blk.cells
      go_wp2_with (fail)
      clear y0 y1 y2 y3 y4 y5 y6 v0 v1 v2 v3 v4 v5 v6
      refine (rlsame_self x c p V HU2.out.row HX2.out.row HSM.out).mono ?_
      rintro e z1 ⟨rfl, hb⟩
      have HZ1 := Lib.hid (HL2.out.trans (hb.mono HL2.out.size))
      clear hb
      go_wp2_with (fail)
      refine (alive_calls z1).mono ?_
      rintro e z2 ⟨rfl, hb⟩
      have HZ2 := Lib.hid (HZ1.out.trans (hb.mono HZ1.out.size))
      clear hb
      go_wp2_with (fail)
      go_ret
      exact ⟨rfl, HZ2.out⟩
end Go.Proofs.Ytcjaebcninlhlaa
