/- InodeBack: whatever it is called with, it hands back true; nothing that was there has turned. -/
import Derived.Test.YtppnicdhahgigaaDoorLawIno0
namespace Go.Proofs.YtppnicdhahgigaaDoor
open Go.RowKit SumMath WordMath
theorem flip_bit (x b : Nat) (hx : x < 18446744073709551616) (hb : b < 64) : bits .xor .u64 (x : Int) (IntKind.u64.wrap ((2 : Int) ^ b)) = ((x ^^^ 2 ^ b : Nat) : Int) := by
  have h : 2 ^ b < 18446744073709551616 := by
    have := Nat.pow_lt_pow_right (a := 2) (by decide) hb
    simpa using this
  have e : IntKind.u64.wrap ((2 : Int) ^ b) = ((2 ^ b : Nat) : Int) := by
    have e2 : ((2 : Int) ^ b) = ((2 ^ b : Nat) : Int) := by simp
    rw [e2, IntKind.wrap_u64]; exact Int.emod_eq_of_lt (Int.natCast_nonneg _) (Int.ofNat_lt.2 h)
  rw [e, u64_xor_nat _ _ hx h]
theorem Two.set {w : World} {b : Nat} {x : Ino} {P I B : Int} (h : Two w b x P I B) {p : Addr} (hp : b + 1 < p.block) (v : Value) : Two (w.setCell p v) b x P I B :=
  have hb : Below (b + 2) w (w.setCell p v) := (Below.refl (b + 2) w).setCell (by omega) v
  ⟨h.ino.below hb (by omega), (hb.block _ (by omega)).trans h.geo⟩
/-- What is read of any words: a record that is written as them, or an error. -/
theorem read_way (l : List Nat) (hl : Wd l) (P I B : Int) : (errV (decBad l P I B) = .nilIface ∧ mayB (decI l P I B) P I B = true ∧ Small (decI l P I B) ∧ sealed (wL (decI l P I B)) = l) ∨ ∃ v, errV (decBad l P I B) = .iface 81 v := by
  cases hb : decBad l P I B with
  | some kn => exact .inr ⟨_, rfl⟩
  | none =>
    have hq : decI l P I B = rdL l := by unfold decI; rw [hb]
    obtain ⟨h1, h2⟩ := back_ok hl hb
    rw [hq]
    exact .inl ⟨rfl, h1, rdL_small l, h2.symm⟩
set_option maxRecDepth 100000 in
set_option maxHeartbeats 4000000 in
theorem iback_bad (x : Ino) (P I B : Int) (p t : Nat) (A : Option Addr) (l : List Nat) (c : Nat) (w : World) (hm : mayB x P I B = false) (_hp : p < 65536) (_ht : t < 4294967296) (hr : Row w A l) (hl : Wd l) (hlen : l.length ≤ 40) (hcap : l.length ≤ c) (hT : TabAt w) (hE : ErrAt w) :
    Calls Tryd.prog 5 #[x.v, gv P I B, .int .u16 (p : Nat), .int .u32 (t : Nat), .slice A l.length c] w fun e w' => e = .returned (.bool true) ∧ On w w' := by
  have HT := Lib.hid hT
  have HE := Lib.hid hE
  have hway := read_way l hl P I B
  have hD := fun A c W (hr : Row W A l) (hc : l.length ≤ c) (hT : TabAt W) => dec_calls A l c P I B W hr hl hc hT
  generalize decI l P I B = q at *
  generalize errV (decBad l P I B) = ev at *
  have HD := Lib.hid hD
  have HWAY := Lib.hid hway
  have kss := Lib.hid (sameV_self l)
  have hEB := fun W => encode_bad x P I B W hm
  have hMB := fun W => imay_calls x P I B W
  rw [hm] at hMB
  have HEB := Lib.hid hEB
  have HMB := Lib.hid hMB
  clear hEB hMB hm _hp _ht
  have h40 : ((l.length : Nat) : Int) ≤ 40 := by omega
  have b0 := on_two w (.cells x.c 25) (.cells #[.int .i64 P, .int .i64 I, .int .i64 B] 27)
  have t0 := Two.new w x P I B
  have hr0 := hr.below b0
  have HLEN := Lib.hid hlen
  have HCAP := Lib.hid hcap
  have BW := Lib.hid b0
  have TW := Lib.hid t0
  have HR := Lib.hid hr0
  clear b0 t0 hr0 hr hl hcap hlen hT hE hD hway
  go_enter Tryd.func5, Tryd.ntmps5
  go_upto_region 3 with (fail)
  generalize (w.alloc (.cells x.c 25)).alloc (.cells #[.int .i64 P, .int .i64 I, .int .i64 B] 27) = W at *
  refine wp_region3 q 7 7 (fun k => decide (k < 6) || decide (k = 7)) (fun k => decide (k = 8)) 8 [.val (.slice A l.length c), .row l, .val (gv P I B), .val (.tuple #[q.v, ev]), .val (.tuple #[q.v, ev]), .val q.v, .val ev, .ino, .inoDone 7, .val ev]
    (by kernel_rfl) (by kernel_rfl) (by kernel_rfl) (by kernel_rfl) (by kernel_rfl) (by kernel_rfl) ?steps ?rest
  case steps =>
    refine ⟨?s0, ?s1, ?s2, ?s3, ?s4, ?s5, ?s6, ?s7, ?s8, ?s9, trivial⟩
    case s0 =>
      exact st3_val _ 26 rfl rfl rfl rfl fun a u hb hA hd => by
        have q0 := ev_of (show a.eval (.tmp 4) = .slice A l.length c from hA.eval 4 rfl)
        unfold execOp
        simp [go_sem, q0]
    case s1 => exact st3_clone l 27 rfl rfl rfl rfl (.const (.slice none 0 0)) (.tmp 26) rfl A c (by have := HLEN.out; omega) rfl fun a u hb hA hd => ⟨rfl, id (hd 0 26 rfl rfl _ rfl), HR.out.below hb⟩
    case s2 => exact st3_val _ 28 rfl rfl rfl rfl fun a u hb hA hd => run_load_geom rfl (w.heap.size + 1) P I B (hA.eval 6 rfl) ((TW.out.on hb).geo)
    case s3 =>
      refine st3_rcall _ 29 rfl rfl rfl rfl rfl 1 27 l rfl rfl rfl 15 (fun r => #[r, gv P I B]) fun a u A c hb hA hd hv hc hr => ⟨?_, HD.out A c u hr hc (HT.out.below (BW.out.trans hb))⟩
      have q0 := ev_of (hd 2 28 rfl rfl _ rfl)
      have hv := ev_of hv
      unfold execOp
      simp [go_sem, q0, hv]
    case s4 =>
      exact st3_val _ 25 rfl rfl rfl rfl fun a u hb hA hd => by
        have q0 := ev_of (hd 3 29 rfl rfl _ rfl)
        unfold execOp
        simp [go_sem, q0]
    case s5 =>
      exact st3_val _ 30 rfl rfl rfl rfl fun a u hb hA hd => by
        have q0 := ev_of (hd 4 25 rfl rfl _ rfl)
        unfold execOp
        simp [go_sem, q0, Instr.extract]
    case s6 =>
      exact st3_val _ 31 rfl rfl rfl rfl fun a u hb hA hd => by
        have q0 := ev_of (hd 4 25 rfl rfl _ rfl)
        unfold execOp
        simp [go_sem, q0, Instr.extract]
    case s7 => exact st3_ino 11 rfl rfl rfl rfl rfl
    case s8 => exact st3_sino 7 5 11 30 rfl rfl rfl rfl rfl (by decide) rfl rfl rfl rfl rfl rfl
    case s9 =>
      exact st3_val _ 12 rfl rfl rfl rfl fun a u hb hA hd => by
        have q0 := ev_of (hd 6 31 rfl rfl _ rfl)
        unfold execOp
        simp [go_sem, q0]
  case rest =>
    intro vs u hb hR
    obtain ⟨gy, e8, hgy, iy⟩ := hR 8 (by decide)
    have e9 := hR 9 (by decide)
    replace e9 : vs 9 = ev := e9
    clear hR
    simp only [putsFrom, Act.put, List.setIfInBounds_toArray, List.set_cons_succ, List.set_cons_zero, e8, e9]
    clear e8 e9
    generalize vs 0 = p0 at *
    generalize vs 1 = p1 at *
    generalize vs 2 = p2 at *
    generalize vs 3 = p3 at *
    generalize vs 4 = p4 at *
    generalize vs 5 = p5 at *
    generalize vs 6 = p6 at *
    clear vs
    have bw3 := BW.out.trans hb
    have t3 := TW.out.on hb
    have hr3 := HR.out.below hb
    have BW3 := Lib.hid bw3
    have TW3 := Lib.hid t3
    have HR3 := Lib.hid hr3
    have IY := Lib.hid iy
    clear bw3 t3 hr3 iy hb BW TW HR HD hgy W
    obtain ⟨rfl, hmq, hsq, hlq⟩ | ⟨ve, rfl⟩ := HWAY.out
    case' inr =>
      clear HWAY IY
      have bX := BW3.out
      have tX := TW3.out
      clear BW3 TW3 HR3
      obtain ⟨x0, x1, x2, x3, x4, x5, x6, x7, x8, x9, x10, x11, x12⟩ := tX.ino.cells
      obtain ⟨g0, g1, g2⟩ := three_cells tX.geo
      have hlx := tX.ino.lt
      have hlg := lt_of_cells tX.geo
      go_wp2_with (fail)
      clear x0 x1 x2 x3 x4 x5 x6 x7 x8 x9 x10 x11 x12 g0 g1 g2 hlx hlg
      generalize u = wX at *
    case' inl =>
      have hEQ := fun W hW => encode_own q P I B W hsq hmq hW
      rw [hlq] at hEQ
      have HEQ := Lib.hid hEQ
      clear hEQ hmq hsq hlq HWAY
      have iy := IY.out
      have t3 := TW3.out
      obtain ⟨y0, y1, y2, y3, y4, y5, y6, y7, y8, y9, y10, y11, y12⟩ := iy.cells
      have hly := iy.lt
      obtain ⟨g0, g1, g2⟩ := three_cells t3.geo
      have hlg := lt_of_cells t3.geo
      clear iy t3
      go_wp2_with (fail)
      clear y0 y1 y2 y3 y4 y5 y6 y7 y8 y9 y10 y11 y12 hly g0 g1 g2 hlg
      refine (HEQ.out u (HT.out.below BW3.out)).mono ?_
      rintro e w4 ⟨A4, c4, rfl, hr4, hf4, hb4, hc4, _⟩
      have hS := same_calls A4 A l l c4 c w4 hr4 (HR3.out.below hb4) (by have := HLEN.out; omega) (by have := HLEN.out; omega)
      rw [kss.out] at hS
      have HS := Lib.hid hS
      have bw4 := BW3.out.trans hb4
      have t4 := TW3.out.on hb4
      clear hS hr4 hf4 hb4 hc4 HEQ BW3 TW3 HR3 IY
      go_wp2_with (fail)
      refine HS.out.mono ?_
      rintro e w5 ⟨rfl, m, rfl⟩
      have bX := bw4.trans (on_drewN w4 m)
      have tX := t4.on (on_drewN w4 m)
      clear HS bw4 t4
      generalize w4.drewN m = wX at *
      obtain ⟨x0, x1, x2, x3, x4, x5, x6, x7, x8, x9, x10, x11, x12⟩ := tX.ino.cells
      obtain ⟨g0, g1, g2⟩ := three_cells tX.geo
      have hlx := tX.ino.lt
      have hlg := lt_of_cells tX.geo
      go_wp2_with (fail)
      clear x0 x1 x2 x3 x4 x5 x6 x7 x8 x9 x10 x11 x12 g0 g1 g2 hlx hlg
    all_goals
      refine (HEB.out wX).mono ?_
      rintro e w5 ⟨rfl, hb5⟩
      have bw5 := bX.trans hb5
      have t5 := tX.on hb5
      obtain ⟨x0, x1, x2, x3, x4, x5, x6, x7, x8, x9, x10, x11, x12⟩ := t5.ino.cells
      obtain ⟨g0, g1, g2⟩ := three_cells t5.geo
      have hlx := t5.ino.lt
      have hlg := lt_of_cells t5.geo
      clear hb5 bX tX
      go_wp2_with (fail)
      clear x0 x1 x2 x3 x4 x5 x6 x7 x8 x9 x10 x11 x12 g0 g1 g2 hlx hlg
      refine (HMB.out w5).mono ?_
      rintro e w6 ⟨rfl, hb6⟩
      have bw6 := bw5.trans hb6
      clear hb6 bw5 t5
      go_wp2_with (fail)
      refine (alive_calls _ (HT.out.below bw6) (HE.out.below bw6)).mono ?_
      rintro e w7 ⟨rfl, hb7⟩
      go_wp2_with (fail)
      go_ret
      exact ⟨rfl, bw6.trans hb7⟩
set_option maxRecDepth 100000 in
set_option maxHeartbeats 4000000 in
theorem iback_good (x : Ino) (P I B : Int) (p t : Nat) (A : Option Addr) (l : List Nat) (c : Nat) (w : World) (hG : 0 ≤ x.G ∧ x.G < 4294967296) (hm : mayB x P I B = true) (hp : p < 65536) (ht : t < 4294967296) (hr : Row w A l) (hl : Wd l) (hlen : l.length ≤ 40) (hcap : l.length ≤ c) (hT : TabAt w) (hE : ErrAt w) :
    Calls Tryd.prog 5 #[x.v, gv P I B, .int .u16 (p : Nat), .int .u32 (t : Nat), .slice A l.length c] w fun e w' => e = .returned (.bool true) ∧ On w w' := by
  have HT := Lib.hid hT
  have HE := Lib.hid hE
  have hway := read_way l hl P I B
  have hD := fun A c W (hr : Row W A l) (hc : l.length ≤ c) (hT : TabAt W) => dec_calls A l c P I B W hr hl hc hT
  generalize decI l P I B = q at *
  generalize errV (decBad l P I B) = ev at *
  have HD := Lib.hid hD
  have HWAY := Lib.hid hway
  have kss := Lib.hid (sameV_self l)
  have hroom := may_room hG hm
  have hEO := fun W hW => encode_own x P I B W hroom.small hm hW
  have hDX : ∀ A c W, Row W A (sealed (wL x)) → (sealed (wL x)).length ≤ c → TabAt W → Calls Tryd.prog 15 #[.slice A (sealed (wL x)).length c, gv P I B] W fun e w' => e = .returned (.tuple #[x.v, .nilIface]) ∧ Below W.heap.size W w' := fun A c W hr hc hT => by
    have h := dec_calls A (sealed (wL x)) c P I B W hr (wd_sealed (wd_wL hroom.small)) hc hT
    rw [dec_sealed hroom, if_pos hm, (bad_may hroom P I B).2 hm] at h
    exact h
  have hTB : ∀ k Y, Turned (sealed (wL x)) k t 32 Y → (decBad Y P I B).isNone = decide (t = 0) := fun k Y h => turned_ino hroom hm h ht
  have hHL := sealed_wL_length x
  have hHW := wd_sealed (wd_wL hroom.small)
  generalize sealed (wL x) = s at *
  have HL := Lib.hid hHL
  have HW := Lib.hid hHW
  have HEO := Lib.hid hEO
  have HDX := Lib.hid hDX
  have HTB := Lib.hid hTB
  clear hroom hEO hDX hTB hHL hHW hG hm
  have h40 : ((l.length : Nat) : Int) ≤ 40 := by omega
  have b0 := on_two w (.cells x.c 25) (.cells #[.int .i64 P, .int .i64 I, .int .i64 B] 27)
  have t0 := Two.new w x P I B
  have hr0 := hr.below b0
  have HLEN := Lib.hid hlen
  have HCAP := Lib.hid hcap
  have BW := Lib.hid b0
  have TW := Lib.hid t0
  have HR := Lib.hid hr0
  clear b0 t0 hr0 hr hl hcap hlen hT hE hD hway
  go_enter Tryd.func5, Tryd.ntmps5
  go_upto_region 3 with (fail)
  generalize (w.alloc (.cells x.c 25)).alloc (.cells #[.int .i64 P, .int .i64 I, .int .i64 B] 27) = W at *
  refine wp_region3 q 7 7 (fun k => decide (k < 6) || decide (k = 7)) (fun k => decide (k = 8)) 8 [.val (.slice A l.length c), .row l, .val (gv P I B), .val (.tuple #[q.v, ev]), .val (.tuple #[q.v, ev]), .val q.v, .val ev, .ino, .inoDone 7, .val ev]
    (by kernel_rfl) (by kernel_rfl) (by kernel_rfl) (by kernel_rfl) (by kernel_rfl) (by kernel_rfl) ?steps ?rest
  case steps =>
    refine ⟨?s0, ?s1, ?s2, ?s3, ?s4, ?s5, ?s6, ?s7, ?s8, ?s9, trivial⟩
    case s0 =>
      exact st3_val _ 26 rfl rfl rfl rfl fun a u hb hA hd => by
        have q0 := ev_of (show a.eval (.tmp 4) = .slice A l.length c from hA.eval 4 rfl)
        unfold execOp
        simp [go_sem, q0]
    case s1 => exact st3_clone l 27 rfl rfl rfl rfl (.const (.slice none 0 0)) (.tmp 26) rfl A c (by have := HLEN.out; omega) rfl fun a u hb hA hd => ⟨rfl, id (hd 0 26 rfl rfl _ rfl), HR.out.below hb⟩
    case s2 => exact st3_val _ 28 rfl rfl rfl rfl fun a u hb hA hd => run_load_geom rfl (w.heap.size + 1) P I B (hA.eval 6 rfl) ((TW.out.on hb).geo)
    case s3 =>
      refine st3_rcall _ 29 rfl rfl rfl rfl rfl 1 27 l rfl rfl rfl 15 (fun r => #[r, gv P I B]) fun a u A c hb hA hd hv hc hr => ⟨?_, HD.out A c u hr hc (HT.out.below (BW.out.trans hb))⟩
      have q0 := ev_of (hd 2 28 rfl rfl _ rfl)
      have hv := ev_of hv
      unfold execOp
      simp [go_sem, q0, hv]
    case s4 =>
      exact st3_val _ 25 rfl rfl rfl rfl fun a u hb hA hd => by
        have q0 := ev_of (hd 3 29 rfl rfl _ rfl)
        unfold execOp
        simp [go_sem, q0]
    case s5 =>
      exact st3_val _ 30 rfl rfl rfl rfl fun a u hb hA hd => by
        have q0 := ev_of (hd 4 25 rfl rfl _ rfl)
        unfold execOp
        simp [go_sem, q0, Instr.extract]
    case s6 =>
      exact st3_val _ 31 rfl rfl rfl rfl fun a u hb hA hd => by
        have q0 := ev_of (hd 4 25 rfl rfl _ rfl)
        unfold execOp
        simp [go_sem, q0, Instr.extract]
    case s7 => exact st3_ino 11 rfl rfl rfl rfl rfl
    case s8 => exact st3_sino 7 5 11 30 rfl rfl rfl rfl rfl (by decide) rfl rfl rfl rfl rfl rfl
    case s9 =>
      exact st3_val _ 12 rfl rfl rfl rfl fun a u hb hA hd => by
        have q0 := ev_of (hd 6 31 rfl rfl _ rfl)
        unfold execOp
        simp [go_sem, q0]
  case rest =>
    intro vs u hb hR
    obtain ⟨gy, e8, hgy, iy⟩ := hR 8 (by decide)
    have e9 := hR 9 (by decide)
    replace e9 : vs 9 = ev := e9
    clear hR
    simp only [putsFrom, Act.put, List.setIfInBounds_toArray, List.set_cons_succ, List.set_cons_zero, e8, e9]
    clear e8 e9
    generalize vs 0 = p0 at *
    generalize vs 1 = p1 at *
    generalize vs 2 = p2 at *
    generalize vs 3 = p3 at *
    generalize vs 4 = p4 at *
    generalize vs 5 = p5 at *
    generalize vs 6 = p6 at *
    clear vs
    have bw3 := BW.out.trans hb
    have t3 := TW.out.on hb
    have hr3 := HR.out.below hb
    have BW3 := Lib.hid bw3
    have TW3 := Lib.hid t3
    have HR3 := Lib.hid hr3
    have IY := Lib.hid iy
    clear bw3 t3 hr3 iy hb BW TW HR HD hgy W
    obtain ⟨rfl, hmq, hsq, hlq⟩ | ⟨ve, rfl⟩ := HWAY.out
    case' inr =>
      clear HWAY IY
      have bX := BW3.out
      have tX := TW3.out
      clear BW3 TW3 HR3
      obtain ⟨x0, x1, x2, x3, x4, x5, x6, x7, x8, x9, x10, x11, x12⟩ := tX.ino.cells
      obtain ⟨g0, g1, g2⟩ := three_cells tX.geo
      have hlx := tX.ino.lt
      have hlg := lt_of_cells tX.geo
      go_wp2_with (fail)
      clear x0 x1 x2 x3 x4 x5 x6 x7 x8 x9 x10 x11 x12 g0 g1 g2 hlx hlg
      generalize u = wX at *
    case' inl =>
      have hEQ := fun W hW => encode_own q P I B W hsq hmq hW
      rw [hlq] at hEQ
      have HEQ := Lib.hid hEQ
      clear hEQ hmq hsq hlq HWAY
      have iy := IY.out
      have t3 := TW3.out
      obtain ⟨y0, y1, y2, y3, y4, y5, y6, y7, y8, y9, y10, y11, y12⟩ := iy.cells
      have hly := iy.lt
      obtain ⟨g0, g1, g2⟩ := three_cells t3.geo
      have hlg := lt_of_cells t3.geo
      clear iy t3
      go_wp2_with (fail)
      clear y0 y1 y2 y3 y4 y5 y6 y7 y8 y9 y10 y11 y12 hly g0 g1 g2 hlg
      refine (HEQ.out u (HT.out.below BW3.out)).mono ?_
      rintro e w4 ⟨A4, c4, rfl, hr4, hf4, hb4, hc4, _⟩
      have hS := same_calls A4 A l l c4 c w4 hr4 (HR3.out.below hb4) (by have := HLEN.out; omega) (by have := HLEN.out; omega)
      rw [kss.out] at hS
      have HS := Lib.hid hS
      have bw4 := BW3.out.trans hb4
      have t4 := TW3.out.on hb4
      clear hS hr4 hf4 hb4 hc4 HEQ BW3 TW3 HR3 IY
      go_wp2_with (fail)
      refine HS.out.mono ?_
      rintro e w5 ⟨rfl, m, rfl⟩
      have bX := bw4.trans (on_drewN w4 m)
      have tX := t4.on (on_drewN w4 m)
      clear HS bw4 t4
      generalize w4.drewN m = wX at *
      obtain ⟨x0, x1, x2, x3, x4, x5, x6, x7, x8, x9, x10, x11, x12⟩ := tX.ino.cells
      obtain ⟨g0, g1, g2⟩ := three_cells tX.geo
      have hlx := tX.ino.lt
      have hlg := lt_of_cells tX.geo
      go_wp2_with (fail)
      clear x0 x1 x2 x3 x4 x5 x6 x7 x8 x9 x10 x11 x12 g0 g1 g2 hlx hlg
    all_goals
      refine (HEO.out wX (HT.out.below bX)).mono ?_
      rintro e w5 ⟨A5, c5, rfl, hr5, hf5, hb5, hc5, g5, rfl, hB5⟩
      obtain ⟨g5', e5, hg5⟩ := hf5 _ rfl
      injection e5 with e5
      subst e5
      rw [HL.out] at hc5 ⊢
      have bw5 := bX.trans hb5
      have t5 := tX.on hb5
      have hwg : w.heap.size + 1 < g5 := Nat.lt_of_lt_of_le (lt_of_cells tX.geo) hg5
      have BW5 := Lib.hid bw5
      have TW := Lib.hid t5
      have HR5 := Lib.hid hr5
      have HB5 := Lib.hid hB5
      have HC5 := Lib.hid hc5
      have HG5 := Lib.hid hwg
      clear hb5 bX tX hf5 hg5 bw5 t5 hr5 hB5 hc5 hwg
      go_upto_region 11 with (fail)
      refine wp_region3 x 7 7 (fun k => decide (k < 6) || decide (k = 7)) (fun k => decide (k = 8)) 8 [.val (.slice (some ⟨g5, 0, none⟩) 8 c5), .row s, .val (gv P I B), .val (.tuple #[x.v, .nilIface]), .val (.tuple #[x.v, .nilIface]), .val x.v, .val .nilIface, .ino, .inoDone 7, .val .nilIface]
        (by kernel_rfl) (by kernel_rfl) (by kernel_rfl) (by kernel_rfl) (by kernel_rfl) (by kernel_rfl) ?steps ?rest
      case steps =>
        refine ⟨?s0, ?s1, ?s2, ?s3, ?s4, ?s5, ?s6, ?s7, ?s8, ?s9, trivial⟩
        case s0 =>
          exact st3_val _ 69 rfl rfl rfl rfl fun a u hb hA hd => by
            have q0 := ev_of (show a.eval (.tmp 15) = .slice (some ⟨g5, 0, none⟩) 8 c5 from hA.eval 15 rfl)
            unfold execOp
            simp [go_sem, q0]
        case s1 => exact st3_clone s 70 rfl rfl rfl rfl (.const (.slice none 0 0)) (.tmp 69) rfl (some ⟨g5, 0, none⟩) c5 (by rw [HL.out]; decide) rfl fun a u hb hA hd => ⟨rfl, by rw [HL.out]; exact (hd 0 69 rfl rfl _ rfl), HR5.out.below hb⟩
        case s2 => exact st3_val _ 71 rfl rfl rfl rfl fun a u hb hA hd => run_load_geom rfl (w.heap.size + 1) P I B (hA.eval 6 rfl) ((TW.out.on hb).geo)
        case s3 =>
          refine st3_rcall _ 72 rfl rfl rfl rfl rfl 1 70 s rfl rfl rfl 15 (fun r => #[r, gv P I B]) fun a u A c hb hA hd hv hc hr => ⟨?_, HDX.out A c u hr hc (HT.out.below (BW5.out.trans hb))⟩
          have q0 := ev_of (hd 2 71 rfl rfl _ rfl)
          have hv := ev_of hv
          unfold execOp
          simp [go_sem, q0, hv]
        case s4 =>
          exact st3_val _ 68 rfl rfl rfl rfl fun a u hb hA hd => by
            have q0 := ev_of (hd 3 72 rfl rfl _ rfl)
            unfold execOp
            simp [go_sem, q0]
        case s5 =>
          exact st3_val _ 73 rfl rfl rfl rfl fun a u hb hA hd => by
            have q0 := ev_of (hd 4 68 rfl rfl _ rfl)
            unfold execOp
            simp [go_sem, q0, Instr.extract]
        case s6 =>
          exact st3_val _ 74 rfl rfl rfl rfl fun a u hb hA hd => by
            have q0 := ev_of (hd 4 68 rfl rfl _ rfl)
            unfold execOp
            simp [go_sem, q0, Instr.extract]
        case s7 => exact st3_ino 17 rfl rfl rfl rfl rfl
        case s8 => exact st3_sino 7 5 17 73 rfl rfl rfl rfl rfl (by decide) rfl rfl rfl rfl rfl rfl
        case s9 =>
          exact st3_val _ 18 rfl rfl rfl rfl fun a u hb hA hd => by
            have q0 := ev_of (hd 6 74 rfl rfl _ rfl)
            unfold execOp
            simp [go_sem, q0]
      case rest =>
        intro vs u6 hb hR
        obtain ⟨gz, e8, _, iz⟩ := hR 8 (by decide)
        have e9 := hR 9 (by decide)
        replace e9 : vs 9 = .nilIface := e9
        clear hR
        simp only [putsFrom, Act.put, List.setIfInBounds_toArray, List.set_cons_succ, List.set_cons_zero, e8, e9]
        clear e8 e9
        generalize vs 0 = r0 at *
        generalize vs 1 = r1 at *
        generalize vs 2 = r2 at *
        generalize vs 3 = r3 at *
        generalize vs 4 = r4 at *
        generalize vs 5 = r5 at *
        generalize vs 6 = r6 at *
        clear vs
        have bw6 := BW5.out.trans hb
        have t6 := TW.out.on hb
        have hB6 := HB5.out.below hb HB5.out.lt
        clear BW5 TW HB5 HR5 hb HDX HEO
        have T6 := Lib.hid t6
        have B6 := Lib.hid bw6
        have hBk6 := Lib.hid hB6
        obtain ⟨y0, y1, y2, y3, y4, y5, y6, y7, y8, y9, y10, y11, y12⟩ := iz.cells
        have hly := iz.lt
        obtain ⟨x0, x1, x2, x3, x4, x5, x6, x7, x8, x9, x10, x11, x12⟩ := t6.ino.cells
        obtain ⟨g0, g1, g2⟩ := three_cells t6.geo
        have hlx := t6.ino.lt
        have hlg := lt_of_cells t6.geo
        have eI : ∀ W : World, (Op.equalIn 10000 25 (.agg #[.int .u8 x.K, .int .i64 x.L, .int .u32 x.G, .int .i64 x.S, .int .i64 x.A, .int .i64 x.M, .int .i64 x.H0, .int .i64 x.H1, .int .i64 x.H2, .int .i64 x.H3, .int .i64 x.P, .int .i64 x.T, .int .i64 x.C]) (.agg #[.int .u8 x.K, .int .i64 x.L, .int .u32 x.G, .int .i64 x.S, .int .i64 x.A, .int .i64 x.M, .int .i64 x.H0, .int .i64 x.H1, .int .i64 x.H2, .int .i64 x.H3, .int .i64 x.P, .int .i64 x.T, .int .i64 x.C])).run Tryd.prog W = .ok true W := fun W => eqI x W
        clear iz t6 bw6 hB6
        obtain ⟨k, hk, hk2⟩ : ∃ k : Nat, (p : Int) % 481 = (k : Int) ∧ k ≤ 480 := ⟨p % 481, by simp, by omega⟩
        have hk := Lib.hid hk
        go_wp2_with (fail)
        rw [hk.out]
        clear x0 x1 x2 x3 x4 x5 x6 x7 x8 x9 x10 x11 x12 y0 y1 y2 y3 y4 y5 y6 y7 y8 y9 y10 y11 y12 hly g0 g1 g2 hlx hlg eI
        go_loopw [20] (fun i wr => ∃ (j : Nat) (Y : List Nat), i = .int .i64 j ∧ j ≤ 32 ∧ Turned s k t j Y ∧ Blk 44 wr g5 Y ∧ On w wr ∧ Two wr w.heap.size x P I B) (fun i _ => 32 - (intOf i).toNat)
        case atStart => exact ⟨0, _, rfl, by omega, Turned.zero HW.out k t, hBk6.out, B6.out, T6.out⟩
        case round =>
          obtain ⟨j, Y, rfl, hj, hTu, hBk, hb, hTwo⟩ := hrel
          have hlen2 := hTu.len
          rw [HL.out] at hlen2
          have HTwo := Lib.hid hTwo
          clear hTwo
          by_cases hj32 : j < 32
          · by_cases hbit : t / 2 ^ j % 2 = 1
            · have hI : (k + j) / 64 < Y.length := by omega
              have hI8 : (k + j) / 64 < 8 := by omega
              have hI8' : ((k : Int) + (j : Int)) / 64 < 8 := by omega
              have hcl := hBk.cell _ hI
              have hfz := hBk.frozen ((k + j) / 64)
              have hwd := hTu.wd ((k + j) / 64)
              have ht2 := Lib.hid (hTu.turn hbit (by rw [HL.out]; omega))
              have hset := Lib.hid (hBk.set ((k + j) / 64) (Y.getD ((k + j) / 64) 0 ^^^ 2 ^ ((k + j) % 64)))
              have hb1 : (((t : Int) / 2 ^ j).tmod 2 == 1) = true := by
                rw [beq_iff_eq]
                have : ((t : Int) / 2 ^ j) = ((t / 2 ^ j : Nat) : Int) := by simp
                rw [this, Int.tmod_eq_emod_of_nonneg (Int.natCast_nonneg _)]; omega
              clear hbit hI hlen2
              generalize Y.getD ((k + j) / 64) 0 = xv at *
              go_wp2_with (fail)
              go_roundw
              case rel =>
                rw [flip_bit xv _ hwd (Nat.mod_lt _ (by decide))]
                exact ⟨j + 1, _, by go_num, by omega, ht2.out, hset.out, Below.setCell hb (p := ⟨g5, (k + j) / 64, none⟩) (by have := HG5.out; show _ ≤ g5; omega) _, HTwo.out.set (p := ⟨g5, (k + j) / 64, none⟩) HG5.out _⟩
              case measure => simp [intOf]; omega
            · have ht2 := hTu.skip hbit
              have hb1 : (((t : Int) / 2 ^ j).tmod 2 == 1) = false := by
                rw [beq_eq_false_iff_ne]
                have : ((t : Int) / 2 ^ j) = ((t / 2 ^ j : Nat) : Int) := by simp
                rw [this, Int.tmod_eq_emod_of_nonneg (Int.natCast_nonneg _)]; omega
              clear hbit hlen2
              go_wp2_with (fail)
              go_roundw
              case rel => exact ⟨j + 1, _, by go_num, by omega, ht2, hBk, hb, HTwo.out⟩
              case measure => simp [intOf]; omega
          · obtain rfl : j = 32 := by omega
            have htb := HTB.out k Y hTu
            have hA8 := dec_calls (some ⟨g5, 0, none⟩) Y c5 P I B wr hBk.row hTu.wd (by rw [hlen2]; exact HC5.out) (HT.out.below hb)
            rw [hlen2] at hA8
            have hte : ((t : Int) == 0) = decide (t = 0) := by
              by_cases h0 : t = 0
              · subst h0; rfl
              · rw [decide_eq_false h0, beq_eq_false_iff_ne]; omega
            rw [← htb] at hte
            have HTE := Lib.hid hte
            have HA8 := Lib.hid hA8
            clear hTu htb hte hA8 hlen2 hBk
            generalize decI Y P I B = dy at *
            obtain ⟨g0, g1, g2⟩ := three_cells HTwo.out.geo
            have hlg := lt_of_cells HTwo.out.geo
            cases hbY : decBad Y P I B
            all_goals
              rw [hbY] at HTE HA8
              unfold errV at HA8
              simp only [Option.isNone_none, Option.isNone_some] at HTE
              go_wp2_with (fail)
              clear g0 g1 g2 hlg
              refine HA8.out.mono ?_
              rintro e w9 ⟨rfl, hb9⟩
              have bw9 := On.trans hb hb9
              have hte := HTE.out
              go_wp2_with (fail)
              refine (alive_calls _ (HT.out.below bw9) (HE.out.below bw9)).mono ?_
              rintro e w10 ⟨rfl, hb10⟩
              go_wp2_with (fail)
              go_ret
              exact ⟨rfl, bw9.trans hb10⟩
set_option maxRecDepth 100000 in
theorem iback_calls (x : Ino) (P I B : Int) (p t : Int) (A : Option Addr) (l : List Nat) (c : Nat) (w : World) (hx : Typ x) (p0 : 0 ≤ p) (p1 : p < 65536) (t0 : 0 ≤ t) (t1 : t < 4294967296) (hr : Row w A l) (hl : Wd l) (hlen : l.length ≤ 9223372036854775807) (hcap : l.length ≤ c) (hT : TabAt w) (hE : ErrAt w) :
    Calls Tryd.prog 5 #[x.v, gv P I B, .int .u16 p, .int .u32 t, .slice A l.length c] w fun e w' => e = .returned (.bool true) ∧ Below w.heap.size w w' := by
  by_cases h40 : 40 < l.length
  · have HT := Lib.hid hT
    have HE := Lib.hid hE
    have B0 := Lib.hid (on_two w (.cells x.c 25) (.cells #[.int .i64 P, .int .i64 I, .int .i64 B] 27))
    clear hT hE
    go_enter Tryd.func5, Tryd.ntmps5
    go_wp2_with (fail)
    refine (alive_calls _ (HT.out.below B0.out) (HE.out.below B0.out)).mono ?_
    rintro e w' ⟨rfl, hb⟩
    go_wp2_with (fail)
    go_ret
    exact ⟨rfl, B0.out.trans hb⟩
  · obtain ⟨p, rfl⟩ := Int.eq_ofNat_of_zero_le p0
    obtain ⟨t, rfl⟩ := Int.eq_ofNat_of_zero_le t0
    cases hm : mayB x P I B with
    | true => exact iback_good x P I B p t A l c w hx.G hm (by omega) (by omega) hr hl (by omega) hcap hT hE
    | false => exact iback_bad x P I B p t A l c w hm (by omega) (by omega) hr hl (by omega) hcap hT hE
end Go.Proofs.YtppnicdhahgigaaDoor
