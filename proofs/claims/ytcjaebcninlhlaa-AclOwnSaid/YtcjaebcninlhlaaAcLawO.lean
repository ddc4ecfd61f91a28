/- AclOwn: whatever it is called with, it hands back true. -/
import Derived.Test.YtcjaebcninlhlaaAcLawT
import Derived.Test.YtcjaebcninlhlaaAcJ
set_option linter.unusedSimpArgs false
set_option linter.unusedVariables false
namespace Go.Proofs.Ytcjaebcninlhlaa
open Go.RowKit
/-- Rows below block n. -/
def Under (n : Nat) (y : Ac) (r : Lie) : Prop := (∀ ad, r.A = some ad → 0 < (nv y.us).length → ad.block < n) ∧ ∀ ad, r.B = some ad → 0 < (nv y.gs).length → ad.block < n
section
variable {W W' w0 : World} {g n : Nat} {y : Ac} {r q : Lie} {F : Nat → Prop}
theorem Lies.under (h : Lies W y r) : Under W.heap.size y r :=
  ⟨fun ad e h0 => by obtain ⟨a, e', hl, _⟩ := h.us h0; rw [e] at e'; injection e' with e'; subst e'; exact hl, fun ad e h0 => by obtain ⟨a, e', hl, _⟩ := h.gs h0; rw [e] at e'; injection e' with e'; subst e'; exact hl⟩
theorem Held.only (h : Held W g y r) (ho : Only F W W') (hg : ¬ F g) (hu : Under n y r) (hF : ∀ k, F k → n ≤ k) : Held W' g y r :=
  ⟨(ho.block g h.blk.lt hg).trans h.blk, h.row.us.only ho (fun ad e h0 hf => by have := hu.1 ad e h0; have := hF _ hf; omega), h.row.gs.only ho (fun ad e h0 hf => by have := hu.2 ad e h0; have := hF _ hf; omega)⟩
theorem Copied.only (h : Copied w0 W y r) (ho : Only F W W') (hF : ∀ k, OfRows r k → ¬ F k) : Copied w0 W' y r :=
  ⟨⟨h.us.1.keep fun ad e => ho.block _ (h.us.1.lt ad e) (hF _ (.inl ⟨ad, e, rfl⟩)), h.us.2⟩, ⟨h.gs.1.keep fun ad e => ho.block _ (h.gs.1.lt ad e) (hF _ (.inr ⟨ad, e, rfl⟩)), h.gs.2⟩, h.ne⟩
theorem Copied.rows_far (h : Copied w0 W y r) : ∀ k, OfRows r k → w0.heap.size ≤ k := fun k hk => by
  rcases hk with ⟨ad, e, rfl⟩ | ⟨ad, e, rfl⟩
  · exact h.us.2 ad e
  · exact h.gs.2 ad e
theorem Copied.rows_lt (h : Copied w0 W y r) : ∀ k, OfRows r k → k < W.heap.size := fun k hk => by
  rcases hk with ⟨ad, e, rfl⟩ | ⟨ad, e, rfl⟩
  · exact h.us.1.lt ad e
  · exact h.gs.1.lt ad e
theorem Copied.not_row {z : Ac} {p : Lie} (h : Copied w0 W y r) (hz : Ab W g z p) : ¬ OfRows r g := fun hk => by
  obtain ⟨h1, h2⟩ := rows_ne h hz
  rcases hk with ⟨ad, e, he⟩ | ⟨ad, e, he⟩
  · exact h1 ad e he
  · exact h2 ad e he
end
set_option maxRecDepth 100000 in
set_option maxHeartbeats 8000000 in
theorem own_law (x : Ac) (p : Lie) (b : Nat) (w : World) (h : Lies w x p) (hs : Bg x) (hx : Nb x) (hb : b < 65536) :
    Calls Try.prog 6 #[x.v p, .int .u16 (b : Nat)] w fun e w' => e = .returned (.bool true) ∧ Below w.heap.size w w' := by
  obtain ⟨U, hU⟩ : ∃ U, U = w.alloc (.cells (x.c p) 24) := ⟨_, rfl⟩
  have z := Ab.new w x p
  have hbU : Below w.heap.size w (w.alloc (.cells (x.c p) 24)) := (Below.refl _ _).alloc (Nat.le_refl _) _
  rw [← hU] at z hbU
  obtain ⟨bx, hbx⟩ : ∃ g, g = w.heap.size := ⟨_, rfl⟩
  have HLI := Lib.hid (h.below hbU)
  have HBU := Lib.hid hbU
  obtain ⟨lg, hlg⟩ : ∃ lg, (decide (100 < x.us.length) || decide (100 < x.gs.length)) = lg := ⟨_, rfl⟩
  have hla := large_calls x p U hs
  rw [hlg] at hla
  have HLA := Lib.hid hla
  have HLG := Lib.hid hlg
  have HNB := Lib.hid hx
  have HU := Lib.hid hU
  rw [← hbx] at z
  have HZ := Lib.hid z
  have HBX := Lib.hid hbx
  clear h hs hx hlg hla hU z hbU hbx
  go_enter Try.func6, Try.ntmps6
  go_upto_region 1 with (fail)
  rw [← HU.out, ← HBX.out]
  clear HU HBX
  obtain ⟨y0, y1, y2, y3, y4, y5, y6⟩ := HZ.out.cells
  go_wp2_with (fail)
  refine HLA.out.mono ?_
  rintro e w1 ⟨rfl, hb1⟩
  clear y0 y1 y2 y3 y4 y5 y6 HLA
  have HZ1 := Lib.hid (HZ.out.on hb1)
  have HL1 := Lib.hid (HLI.out.below hb1)
  have HB1 := Lib.hid (HBU.out.trans (hb1.mono HBU.out.size))
  clear hb1 HZ HLI HBU
  cases lg
  case true =>
    go_wp2_with (fail)
    refine (alive_calls _).mono ?_
    rintro e w2 ⟨rfl, hb2⟩
    have HB2 := Lib.hid (HB1.out.trans (hb2.mono HB1.out.size))
    clear hb2 HB1
    go_wp2_with (fail)
    go_ret
    exact ⟨rfl, HB2.out⟩
  case false =>
  have HSM : Hid (Sm x) := Lib.hid (sm_of_small HLG.out)
  obtain ⟨y0, y1, y2, y3, y4, y5, y6⟩ := HZ1.out.cells
  go_wp2_with (fail)
  clear y0 y1 y2 y3 y4 y5 y6
  refine (rcopy_calls x p w1 HL1.out HSM.out).mono ?_
  rintro e w2 ⟨o, rfl, hC, hb2⟩
  have HO0 := Lib.hid (Held.new hC.lies)
  have HX0 := Lib.hid ((Held.mk HZ1.out HL1.out).on hb2)
  have HB2 := Lib.hid (HB1.out.trans (hb2.mono HB1.out.size))
  clear hC hb2 HZ1 HL1 HB1
  go_upto_region 4 with (fail)
  obtain ⟨V, hV⟩ : ∃ V, V = w2.alloc (.cells (x.c o) 24) := ⟨_, rfl⟩
  have hbV := below_new w2 x o
  rw [← hV] at hbV
  have HX1 := Lib.hid (HX0.out.on hbV)
  have HO1 : Hid (Held V w2.heap.size x o) := Lib.hid (by rw [hV]; exact HO0.out)
  have HB3 := Lib.hid (HB2.out.trans (hbV.mono HB2.out.size))
  obtain ⟨go, hgo⟩ : ∃ g, g = w2.heap.size := ⟨_, rfl⟩
  rw [← hV, ← hgo]
  rw [← hgo] at HO1
  clear hV hbV hgo HX0 HO0 HB2
  obtain ⟨X, hX⟩ : ∃ X, chA x b = X := ⟨_, rfl⟩
  have HSX : Hid (Sm X) := Lib.hid (hX ▸ sm_ch HSM.out b)
  have HNX : Hid (Nb X) := Lib.hid (hX ▸ nb_ch HNB.out b)
  have HCH : Hid (∀ (u : World), Lies u x p → Calls Try.prog 21 #[x.v p, .int .u16 (b : Nat)] u fun e w' => ∃ q, e = .returned (X.v q) ∧ Copied u w' X q ∧ Below u.heap.size u w') := Lib.hid (fun u hl => hX ▸ rchmod_calls x p b u hl HSM.out hb)
  have HCO : Hid (∀ (u : World), Lies u x o → Calls Try.prog 16 #[x.v o, .int .u16 (b : Nat)] u fun e w' => ∃ q, e = .returned (X.v q) ∧ Copied u w' X q ∧ Below u.heap.size u w') := Lib.hid (fun u hl => hX ▸ chmod_calls x o b u hl HSM.out hb)
  clear hX hb
  refine wp_region_invA (fun L e w' => ∃ q1 q2 g5 g6, J V x X b o L e w' q1 q2 g5 g6) (by kernel_rfl) (by kernel_rfl) ?start ?steps ?rest
  case start =>
    refine ⟨lieZ, lieZ, 0, 0, ?_⟩
    exact ⟨below_drewN (Below.refl _ _) 1, fun h => (by cases h), fun h => (by cases h), fun h => (by cases h), fun h => (by cases h), fun h => (by cases h), fun h => (by cases h), fun h => (by cases h), fun h => (by cases h), fun h => (by cases h), fun h => (by cases h), fun h => (by cases h), fun h => (by cases h), fun h => (by cases h)⟩
  case steps =>
    refine ⟨?s0, ?s1, ?s2, ?s3, ?s4, ?s5, ?s6, ?s7, ?s8, trivial⟩
    case s0 =>
      intro L a u hA hI hL hd
      obtain ⟨q1, q2, g5, g6, hJ⟩ := hI
      have hsz : a.tmps.size = 40 := hA.size
      refine ⟨wanted_plain rfl, fun K Q h => ?_⟩
      refine wp_val (run_loadA rfl go x o (hA.eval 5 rfl) (HO1.out.blk.on hJ.low)) ?_
      exact h _ _ ⟨q1, q2, g5, g6, (hJ.move (Below.refl _ _) (fun h => by rw [hL] at h; cases h) (fun _ => put_ne _ (by decide)) (fun _ => put_ne _ (by decide)) (fun _ => put_ne _ (by decide)) (fun _ => put_ne _ (by decide)) (fun _ => put_ne _ (by decide)) (fun _ => put_ne _ (by decide))).add0 hL (put_self (a := a) (d := 13) _ (show (13 : Nat) < a.tmps.size by omega))⟩
    case s2 =>
      intro L a u hA hI hL hd
      obtain ⟨q1, q2, g5, g6, hJ⟩ := hI
      have hsz : a.tmps.size = 40 := hA.size
      refine ⟨wanted_plain rfl, fun K Q h => ?_⟩
      refine wp_val (run_loadA rfl go x o (hA.eval 5 rfl) (HO1.out.blk.on hJ.low)) ?_
      exact h _ _ ⟨q1, q2, g5, g6, (hJ.move (Below.refl _ _) (fun _ => put_ne _ (by decide)) (fun _ => put_ne _ (by decide)) (fun h => by rw [hL] at h; cases h) (fun _ => put_ne _ (by decide)) (fun _ => put_ne _ (by decide)) (fun _ => put_ne _ (by decide)) (fun _ => put_ne _ (by decide))).add2 hL (put_self (a := a) (d := 15) _ (show (15 : Nat) < a.tmps.size by omega))⟩
    case s3 =>
      intro L a u hA hI hL hd
      obtain ⟨q1, q2, g5, g6, hJ⟩ := hI
      have hsz : a.tmps.size = 40 := hA.size
      refine ⟨wanted_plain rfl, fun K Q h => ?_⟩
      have k0 := ev_of (show a.eval (.tmp 1) = .int .u16 (b : Nat) from hA.eval 1 rfl)
      refine wp_val (v := .int .u16 (b : Nat)) (by unfold execOp; simp [go_sem, k0]) ?_
      exact h _ _ ⟨q1, q2, g5, g6, (hJ.move (Below.refl _ _) (fun _ => put_ne _ (by decide)) (fun _ => put_ne _ (by decide)) (fun _ => put_ne _ (by decide)) (fun h => by rw [hL] at h; cases h) (fun _ => put_ne _ (by decide)) (fun _ => put_ne _ (by decide)) (fun _ => put_ne _ (by decide))).add3 hL (put_self (a := a) (d := 16) _ (show (16 : Nat) < a.tmps.size by omega))⟩
    case s1 =>
      intro L a u hA hI hL hd
      obtain ⟨q1, q2, g5, g6, hJ⟩ := hI
      have hsz : a.tmps.size = 40 := hA.size
      refine ⟨wanted_plain rfl, fun K Q h => ?_⟩
      have hd0 := hJ.f0 (hd ⟨0, .data⟩ (by simp) rfl)
      have k0 := ev_of (show a.eval (.tmp 13) = x.v o from hd0)
      refine wp_callv (f := 15) (args := #[x.v o]) (by unfold execOp; simp [go_sem, k0]) ((copy_calls x o u (HO1.out.row.below hJ.low) HSM.out).mono ?_)
      rintro e w' ⟨q, rfl, hC, hb'⟩
      exact ⟨_, rfl, h _ _ ⟨q, q2, g5, g6, (hJ.move hb' (fun _ => put_ne _ (by decide)) (fun h => by rw [hL] at h; cases h) (fun _ => put_ne _ (by decide)) (fun _ => put_ne _ (by decide)) (fun _ => put_ne _ (by decide)) (fun _ => put_ne _ (by decide)) (fun _ => put_ne _ (by decide))).add1 hL (put_self (a := a) (d := 14) _ (show (14 : Nat) < a.tmps.size by omega)) (hC.from hJ.low.size)⟩⟩
    case s4 =>
      intro L a u hA hI hL hd
      obtain ⟨q1, q2, g5, g6, hJ⟩ := hI
      have hsz : a.tmps.size = 40 := hA.size
      refine ⟨wanted_plain rfl, fun K Q h => ?_⟩
      have hd2 := hJ.f2 (hd ⟨2, .data⟩ (by simp) rfl)
      have hd3 := hJ.f3 (hd ⟨3, .data⟩ (by simp) rfl)
      have h1 : L 1 = true := hd ⟨1, .chain⟩ (by simp) rfl
      have k0 := ev_of (show a.eval (.tmp 15) = x.v o from hd2)
      have k1 := ev_of (show a.eval (.tmp 16) = .int .u16 (b : Nat) from hd3)
      have hf := hJ.f1 h1
      refine wp_callv (f := 16) (args := #[x.v o, .int .u16 (b : Nat)]) (by unfold execOp; simp [go_sem, k0, k1]) ((HCO.out u (HO1.out.row.below hJ.low)).mono ?_)
      rintro e w' ⟨q, rfl, hC, hb'⟩
      exact ⟨_, rfl, h _ _ ⟨q1, q, g5, g6, (hJ.move hb' (fun _ => put_ne _ (by decide)) (fun _ => put_ne _ (by decide)) (fun _ => put_ne _ (by decide)) (fun _ => put_ne _ (by decide)) (fun h => by rw [hL] at h; cases h) (fun _ => put_ne _ (by decide)) (fun _ => put_ne _ (by decide))).add4 hL h1 (put_self (a := a) (d := 17) _ (show (17 : Nat) < a.tmps.size by omega)) (hC.from hJ.low.size) (fun k h1 h2 => by have := hf.2.rows_lt k h1; have := hC.rows_far k h2; omega)⟩⟩
    case s5 =>
      intro L a u hA hI hL hd
      obtain ⟨q1, q2, g5, g6, hJ⟩ := hI
      have hsz : a.tmps.size = 40 := hA.size
      refine ⟨wanted_plain rfl, fun K Q h => ?_⟩
      have hz : Zb (u.alloc (.cells zC 24)) u.heap.size := heap_alloc_new u _
      refine wp_valw (run_allocA rfl) ?_
      exact h _ _ ⟨q1, q2, u.heap.size, g6, (hJ.move ((Below.refl _ _).alloc (Nat.le_refl _) _) (fun _ => put_ne _ (by decide)) (fun _ => put_ne _ (by decide)) (fun _ => put_ne _ (by decide)) (fun _ => put_ne _ (by decide)) (fun _ => put_ne _ (by decide)) (fun h => by rw [hL] at h; cases h) (fun _ => put_ne _ (by decide))).add5 hL (put_self (a := a) (d := 6) _ (show (6 : Nat) < a.tmps.size by omega)) hJ.low.size hz (fun h6 => by
        have := hJ.f6 h6
        have hlt : g6 < u.heap.size := by
          cases h8 : L 8
          · exact (this.2.2.1 h8).lt
          · exact (this.2.2.2 h8).lt
        omega)⟩
    case s6 =>
      intro L a u hA hI hL hd
      obtain ⟨q1, q2, g5, g6, hJ⟩ := hI
      have hsz : a.tmps.size = 40 := hA.size
      refine ⟨wanted_plain rfl, fun K Q h => ?_⟩
      have hz : Zb (u.alloc (.cells zC 24)) u.heap.size := heap_alloc_new u _
      refine wp_valw (run_allocA rfl) ?_
      exact h _ _ ⟨q1, q2, g5, u.heap.size, (hJ.move ((Below.refl _ _).alloc (Nat.le_refl _) _) (fun _ => put_ne _ (by decide)) (fun _ => put_ne _ (by decide)) (fun _ => put_ne _ (by decide)) (fun _ => put_ne _ (by decide)) (fun _ => put_ne _ (by decide)) (fun _ => put_ne _ (by decide)) (fun h => by rw [hL] at h; cases h)).add6 hL (put_self (a := a) (d := 7) _ (show (7 : Nat) < a.tmps.size by omega)) hJ.low.size hz (fun h5 => by
        have := hJ.f5 h5
        have hlt : g5 < u.heap.size := by
          cases h7 : L 7
          · exact (this.2.2.1 h7).lt
          · exact (this.2.2.2 h7).lt
        omega)⟩
    case s7 =>
      intro L a u hA hI hL hd
      obtain ⟨q1, q2, g5, g6, hJ⟩ := hI
      have hsz : a.tmps.size = 40 := hA.size
      refine ⟨wanted_plain rfl, fun K Q h => ?_⟩
      have h5 : L 5 = true := hd ⟨5, .data⟩ (by simp) rfl
      have h1 : L 1 = true := hd ⟨1, .data⟩ (by simp) rfl
      have h4 : L 4 = true := hd ⟨4, .chain⟩ (by simp) rfl
      have e5 := hJ.f5 h5
      refine wp_skip (run_storeA rfl g5 x acZ q1 lieZ e5.1 (hJ.f1 h1).1 (e5.2.2.1 hL).ab) ?_
      exact h _ _ ⟨q1, q2, g5, g6, hJ.add7 hL h1 h4 h5⟩
    case s8 =>
      intro L a u hA hI hL hd
      obtain ⟨q1, q2, g5, g6, hJ⟩ := hI
      have hsz : a.tmps.size = 40 := hA.size
      refine ⟨wanted_plain rfl, fun K Q h => ?_⟩
      have h6 : L 6 = true := hd ⟨6, .data⟩ (by simp) rfl
      have h4 : L 4 = true := hd ⟨4, .data⟩ (by simp) rfl
      have h7 : L 7 = true := hd ⟨7, .chain⟩ (by simp) rfl
      have e6 := hJ.f6 h6
      refine wp_skip (run_storeA rfl g6 X acZ q2 lieZ e6.1 (hJ.f4 h4).1 (e6.2.2.1 hL).ab) ?_
      exact h _ _ ⟨q1, q2, g5, g6, hJ.add8 hL (hJ.c1 h4) h4 (hJ.c5 h7) h6 h7⟩
  case rest =>
    intro L vs u hI hall
    obtain ⟨q1, q2, g5, g6, hJ⟩ := hI
    have e5 : vs 5 = ptrV g5 := (hJ.f5 (hall 5 (by decide))).1
    have e6 : vs 6 = ptrV g6 := (hJ.f6 (hall 6 (by decide))).1
    have hC1 := (hJ.f1 (hall 1 (by decide))).2
    have hC2 := (hJ.f4 (hall 4 (by decide))).2.1
    have hap := (hJ.f4 (hall 4 (by decide))).2.2
    have hB5 := (hJ.f5 (hall 5 (by decide))).2.2.2 (hall 7 (by decide))
    have hB6 := (hJ.f6 (hall 6 (by decide))).2.2.2 (hall 8 (by decide))
    have hlow := hJ.low
    clear hJ hall
    simp only [putsFrom, Act.put, List.setIfInBounds_toArray, List.set_cons_succ, List.set_cons_zero, e5, e6]
    generalize vs 0 = z0
    generalize vs 1 = z1
    generalize vs 2 = z2
    generalize vs 3 = z3
    generalize vs 4 = z4
    generalize vs 7 = z7
    generalize vs 8 = z8
    clear e5 e6
    have HX2 := Lib.hid (HX1.out.on hlow)
    have HO2 := Lib.hid (HO1.out.on hlow)
    have HU1 := Lib.hid HX1.out.row.under
    have HU2 := Lib.hid HO1.out.row.under
    have hgo := HO1.out.blk.lt
    have hbx := HX1.out.blk.lt
    have HGO := Lib.hid hgo
    have HBX := Lib.hid hbx
    have HVW := Lib.hid HB3.out.size
    have HB4 := Lib.hid (HB3.out.trans (hlow.mono HB3.out.size))
    have HC1 := Lib.hid hC1
    have HC2 := Lib.hid hC2
    have HAP := Lib.hid hap
    have HY1 := Lib.hid (Held.mk hB5 hC1.lies)
    have HY2 := Lib.hid (Held.mk hB6 hC2.lies)
    clear hlow hC1 hC2 hap hB5 hB6 hgo hbx HX1 HO1 HB3 HCO
    obtain ⟨y0, y1, y2, y3, y4, y5, y6⟩ := HY1.out.blk.cells
    go_wp2_with (fail)
    clear y0 y1 y2 y3 y4 y5 y6
    refine (spoil_calls V u x q1 HC1.out HSM.out HNB.out).mono ?_
    rintro e u2 ⟨rfl, ho⟩
    have hfar := HC1.out.rows_far
    have HX3 := Lib.hid (HX2.out.only ho (fun hk => by have := hfar _ hk; have := HBX.out; omega) HU1.out hfar)
    have HO3 := Lib.hid (HO2.out.only ho (fun hk => by have := hfar _ hk; have := HGO.out; omega) HU2.out hfar)
    have hC2 : Copied V u2 X q2 := HC2.out.only ho (fun k h2 h1 => HAP.out k h1 h2)
    have hY2 : Ab u2 g6 X q2 := (ho.block g6 HY2.out.blk.lt (HC1.out.not_row HY2.out.blk)).trans HY2.out.blk
    have hB5 : Below w.heap.size w u2 := HB4.out.trans (Only.below ho HB4.out.size (fun k hk => by have := hfar k hk; have := HVW.out; omega))
    have HC3 := Lib.hid hC2
    have HY3 := Lib.hid (Held.mk hY2 hC2.lies)
    have HB5 := Lib.hid hB5
    clear ho hfar hC2 hY2 hB5 HX2 HO2 HC1 HC2 HAP HY1 HY2 HB4
    go_upto_region 6 with (fail)
    refine wp_region4 [.val (x.v o), .val (x.v p), .val (.bool true), .val (.bool false), .val (.bool false), .val (X.v q2), .val (x.v p), .val (.int .u16 (b : Nat)), .acl X, .val (.bool true), .val (.bool false), .val (.bool false)] (by kernel_rfl) (by kernel_rfl) (by kernel_rfl) ?stepsb ?restb
    case stepsb =>
      refine ⟨?t0, ?t1, ?t2, ?t3, ?t4, ?t5, ?t6, ?t7, ?t8, ?t9, ?t10, ?t11, trivial⟩
      case t0 =>
        refine st4_val _ rfl (.inl rfl) fun a u hb hA hd => ?_
        exact run_loadA rfl go x o (hA.eval 5 rfl) (HO3.out.blk.on hb)
      case t1 =>
        refine st4_val _ rfl (.inl rfl) fun a u hb hA hd => ?_
        exact run_loadA rfl bx x p (hA.eval 2 rfl) (HX3.out.blk.on hb)
      case t2 =>
        refine st4_call _ rfl (.inl rfl) 14 fun a u hb hA hd => ?_
        have k0 := ev_of (show a.eval (.tmp 20) = x.v o from hd 0 20 rfl rfl _ rfl)
        have k1 := ev_of (show a.eval (.tmp 21) = x.v p from hd 1 21 rfl rfl _ rfl)
        refine ⟨#[x.v o, x.v p], ?_, (rlsame_self x o p u (HO3.out.on hb).row (HX3.out.on hb).row HSM.out).mono ?_⟩
        · unfold execOp
          simp [go_sem, k0, k1]
        · rintro e w' ⟨rfl, hb'⟩
          exact ⟨_, rfl, rfl, hb'⟩
      case t3 =>
        exact st4_val _ rfl (.inl rfl) fun a u hb hA hd => by
          have q0 := ev_of (hd 2 22 rfl rfl _ rfl)
          unfold execOp
          simp [go_sem, q0]
      case t4 => exact st4_move 3 23 rfl (.inl rfl) rfl rfl rfl
      case t5 =>
        refine st4_val _ rfl (.inr ⟨4, 24, false, rfl, rfl, rfl, rfl⟩) fun a u hb hA hd => ?_
        exact run_loadA rfl g6 X q2 (hA.eval 7 rfl) (HY3.out.blk.on hb)
      case t6 =>
        refine st4_val _ rfl (.inr ⟨4, 24, false, rfl, rfl, rfl, rfl⟩) fun a u hb hA hd => ?_
        exact run_loadA rfl bx x p (hA.eval 2 rfl) (HX3.out.blk.on hb)
      case t7 =>
        exact st4_val _ rfl (.inr ⟨4, 24, false, rfl, rfl, rfl, rfl⟩) fun a u hb hA hd => by
          have q0 := ev_of (show a.eval (.tmp 1) = (.int .u16 (b : Nat)) from hA.eval 1 rfl)
          unfold execOp
          simp [go_sem, q0]
      case t8 =>
        refine st4_call _ rfl (.inr ⟨4, 24, false, rfl, rfl, rfl, rfl⟩) 21 fun a u hb hA hd => ?_
        have k0 := ev_of (show a.eval (.tmp 26) = x.v p from hd 6 26 rfl rfl _ rfl)
        have k1 := ev_of (show a.eval (.tmp 27) = .int .u16 (b : Nat) from hd 7 27 rfl rfl _ rfl)
        refine ⟨#[x.v p, .int .u16 (b : Nat)], ?_, (HCH.out u (HX3.out.on hb).row).mono ?_⟩
        · unfold execOp
          simp [go_sem, k0, k1]
        · rintro e w' ⟨q, rfl, hC, hb'⟩
          exact ⟨_, rfl, ⟨q, rfl, hC.lies⟩, hb'⟩
      case t9 =>
        refine st4_call _ rfl (.inr ⟨4, 24, false, rfl, rfl, rfl, rfl⟩) 14 fun a u hb hA hd => ?_
        have k0 := ev_of (show a.eval (.tmp 25) = X.v q2 from hd 5 25 rfl rfl _ rfl)
        obtain ⟨q1, e1, hl1⟩ := (show ∃ p, a.eval (.tmp 28) = Ac.v X p ∧ Lies u X p from hd 8 28 rfl rfl _ rfl)
        have k1 := ev_of e1
        refine ⟨#[X.v q2, X.v q1], ?_, (rlsame_self X q2 q1 u (HY3.out.on hb).row hl1 HSX.out).mono ?_⟩
        · unfold execOp
          simp [go_sem, k0, k1]
        · rintro e w' ⟨rfl, hb'⟩
          exact ⟨_, rfl, rfl, hb'⟩
      case t10 =>
        exact st4_val _ rfl (.inr ⟨4, 24, false, rfl, rfl, rfl, rfl⟩) fun a u hb hA hd => by
          have q0 := ev_of (hd 9 29 rfl rfl _ rfl)
          unfold execOp
          simp [go_sem, q0]
      case t11 => exact st4_val _ rfl (.inl rfl) fun a u hb hA hd => (run_pickF rfl (hd 4 24 rfl rfl _ rfl)).trans (by rw [hd 10 30 rfl rfl _ rfl])
    case restb =>
      intro vs z hb hR
      have ee : vs 11 = .bool false := hR 11 (by decide)
      simp only [putsFrom, Act.put, List.setIfInBounds_toArray, List.set_cons_succ, List.set_cons_zero, ee]
      generalize vs 0 = z0
      generalize vs 1 = z1
      generalize vs 2 = z2
      generalize vs 3 = z3
      generalize vs 4 = z4
      generalize vs 5 = z5
      generalize vs 6 = z6
      generalize vs 7 = z7
      generalize vs 8 = z8
      generalize vs 9 = z9
      generalize vs 10 = z10
      have HX := Lib.hid (HX3.out.on hb)
      have HO := Lib.hid (HO3.out.on hb)
      have HY := Lib.hid (HY3.out.on hb)
      have HC := Lib.hid (HC3.out.on hb)
      have HB := Lib.hid (HB5.out.trans (hb.mono HB5.out.size))
      clear hR ee hb HX3 HO3 HY3 HC3 HB5 HCH
      obtain ⟨y0, y1, y2, y3, y4, y5, y6⟩ := HY.out.blk.cells
      go_wp2_with (fail)
      clear y0 y1 y2 y3 y4 y5 y6
      refine (spoil_calls V z X q2 HC.out HSX.out HNX.out).mono ?_
      rintro e z2 ⟨rfl, ho⟩
      have hfar := HC.out.rows_far
      have HX4 := Lib.hid (HX.out.only ho (fun hk => by have := hfar _ hk; have := HBX.out; omega) HU1.out hfar)
      have HO4 := Lib.hid (HO.out.only ho (fun hk => by have := hfar _ hk; have := HGO.out; omega) HU2.out hfar)
      have hB6 : Below w.heap.size w z2 := HB.out.trans (Only.below ho HB.out.size (fun k hk => by have := hfar k hk; have := HVW.out; omega))
      have HB6 := Lib.hid hB6
      clear ho hfar hB6 HX HO HY HC HB
      obtain ⟨y0, y1, y2, y3, y4, y5, y6⟩ := HO4.out.blk.cells
      obtain ⟨v0, v1, v2, v3, v4, v5, v6⟩ := HX4.out.blk.cells
      go_wp2_with (fail)
      clear y0 y1 y2 y3 y4 y5 y6 v0 v1 v2 v3 v4 v5 v6
      refine (rlsame_self x o p z2 HO4.out.row HX4.out.row HSM.out).mono ?_
      rintro e z3 ⟨rfl, hb⟩
      have HZ1 := Lib.hid (HB6.out.trans (hb.mono HB6.out.size))
      clear hb
      go_wp2_with (fail)
      refine (alive_calls z3).mono ?_
      rintro e z4 ⟨rfl, hb⟩
      have HZ2 := Lib.hid (HZ1.out.trans (hb.mono HZ1.out.size))
      clear hb
      go_wp2_with (fail)
      go_ret
      exact ⟨rfl, HZ2.out⟩
end Go.Proofs.Ytcjaebcninlhlaa
