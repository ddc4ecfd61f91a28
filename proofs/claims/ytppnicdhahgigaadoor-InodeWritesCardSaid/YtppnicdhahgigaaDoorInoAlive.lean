/- 'alive' hands back true: a directory's record there and back. -/
import Derived.Test.YtppnicdhahgigaaDoorStp5
namespace Go.Proofs.YtppnicdhahgigaaDoor
open Go.RowKit WordMath SumMath
theorem geom_calls (w : World) : Calls Tryd.prog 21 #[] w fun e w' => e = .returned (gv 1 4 9) ∧ Below w.heap.size w w' := by
  go_enter Tryd.func21, Tryd.ntmps21
  go_wp2
  exact bodyPost_ret (v := gv 1 4 9) (by simp [results, Tryd.results21, go_sem]) rfl ⟨rfl, (Below.refl _ _).alloc (Nat.le_refl _) _⟩
/-- The example. -/
def xX : Ino := ⟨2, 1, 1, 0, 2, 0, 3, 0, 0, 4, 1, 0, 0⟩
theorem may_ex : mayB xX 1 4 9 = true := mayB_iff.2 ⟨by unfold GOK; omega, by decide⟩
theorem may_ex0 : mayB xX 0 0 0 = false := Bool.eq_false_iff.2 fun h => by
  have := (mayB_iff.1 h).1
  unfold GOK at this
  omega
theorem room_ex : Room xX := may_room (by decide) may_ex
structure Alive (x : Ino) (l : List Nat) : Prop where
  len : l.length = 8
  w0 : l.getD 0 0 = 4294967554
  w3 : l.getD 3 0 = 67108867
  enc : ∀ W, TabAt W → Calls Tryd.prog 7 #[x.v, gv 1 4 9] W fun e w' => ∃ A c, e = .returned (.tuple #[.slice A l.length c, .int .i64 0]) ∧ l.length ≤ c ∧ Row w' A l ∧ Below W.heap.size W w'
  dec : ∀ A c W, Row W A l → 8 ≤ c → TabAt W → Calls Tryd.prog 15 #[.slice A 8 c, gv 1 4 9] W fun e w' => e = .returned (.tuple #[x.v, .nilIface]) ∧ Below W.heap.size W w'
  may : ∀ W, Calls Tryd.prog 9 #[x.v, gv 1 4 9] W fun e w' => e = .returned (.bool true) ∧ Below W.heap.size W w'
  not : ∀ W, Calls Tryd.prog 9 #[x.v, gv 0 0 0] W fun e w' => e = .returned (.bool false) ∧ Below W.heap.size W w'
theorem alive_ex : Alive xX (sealed (wL xX)) := by
  refine ⟨rfl, by decide, by decide, fun W hT => (encode_own xX 1 4 9 W room_ex.small may_ex hT).mono ?_, fun A c W hr hc hT => ?_, fun W => ?_, fun W => ?_⟩
  · rintro e w' ⟨A, c, he, hr, hf, hb, hc, _⟩
    exact ⟨A, c, he, hc, hr, hb⟩
  · have h := dec_calls A (sealed (wL xX)) c 1 4 9 W hr (wd_sealed (wd_wL room_ex.small)) hc hT
    rw [dec_sealed room_ex, if_pos may_ex, (bad_may room_ex 1 4 9).2 may_ex] at h
    exact h
  · have h := imay_calls xX 1 4 9 W
    rw [may_ex] at h
    exact h
  · have h := imay_calls xX 0 0 0 W
    rw [may_ex0] at h
    exact h
/-- Eight zeros are no record. -/
theorem dec_zeros (A : Option Addr) (c : Nat) (W : World) (hr : Row W A [0, 0, 0, 0, 0, 0, 0, 0]) (hc : 8 ≤ c) (hT : TabAt W) : Calls Tryd.prog 15 #[.slice A 8 c, gv 1 4 9] W fun e w' => e = .returned (.tuple #[zI.v, errV (some (7, 7))]) ∧ Below W.heap.size W w' := by
  have h := dec_calls A [0, 0, 0, 0, 0, 0, 0, 0] c 1 4 9 W hr (Wd.of_mem fun x hx => by simp at hx; omega) hc hT
  have hb : decBad [0, 0, 0, 0, 0, 0, 0, 0] 1 4 9 = some (7, 7) := by
    unfold decBad
    rw [if_neg (by unfold GOK; omega), if_neg (by decide), if_pos (by decide +kernel)]
  have hi : decI [0, 0, 0, 0, 0, 0, 0, 0] 1 4 9 = zI := by unfold decI; rw [hb]
  rw [hb, hi] at h
  exact h
set_option maxRecDepth 100000 in
set_option maxHeartbeats 4000000 in
theorem alive_calls (w : World) (hT : TabAt w) (hE : ErrAt w) : Calls Tryd.prog 10 #[] w fun e w' => e = .returned (.bool true) ∧ Below w.heap.size w w' := by
  obtain ⟨x, hxx⟩ : ∃ x, x = xX := ⟨_, rfl⟩
  have hAl := alive_ex
  rw [← hxx] at hAl
  generalize sealed (wL x) = l at hAl
  have HX := Lib.hid hxx
  have HA := Lib.hid hAl
  have HT := Lib.hid hT
  have HE := Lib.hid hE
  have hl8 := Lib.hid hAl.len
  clear hxx hAl hT hE
  go_enter Tryd.func10, Tryd.ntmps10
  go_upto_region 2 with (fail)
  obtain ⟨W, hW⟩ : ∃ W, W = w.alloc (.cells #[.int .u8 2, .int .i64 1, .int .u32 1, .int .i64 0, .int .i64 2, .int .i64 0, .int .i64 3, .int .i64 0, .int .i64 0, .int .i64 4, .int .i64 1, .int .i64 0, .int .i64 0] 25) := ⟨_, rfl⟩
  have ix : Ib W w.heap.size x := by
    rw [hW, HX.out]
    exact heap_alloc_new w _
  have bw : Below w.heap.size w W := by rw [hW]; exact (Below.refl _ _).alloc (Nat.le_refl _) _
  have HI := Lib.hid ix
  have BW := Lib.hid bw
  clear ix bw HX
  rw [← hW]
  clear hW
  refine wp_region4 [.val x.v, .val (gv 1 4 9), .trow l, .trow l, .row l, .val (.int .i64 0), .row l, .val (.int .i64 0)] (by kernel_rfl) (by kernel_rfl) (by kernel_rfl) ?steps2 ?rest2
  case steps2 =>
    refine ⟨?s0, ?s1, ?s2, ?s3, ?s4, ?s5, ?s6, ?s7, trivial⟩
    case s0 => exact st4_val _ rfl (.inl rfl) fun a u hb hA hd => run_load_ino rfl w.heap.size x (hA.eval 1 rfl) (HI.out.below hb HI.out.lt)
    case s1 =>
      refine st4_call _ rfl (.inl rfl) 21 #[] fun a u hb hA hd => ⟨?_, geom_calls u⟩
      unfold execOp
      simp [go_sem]
    case s2 =>
      refine st4_trow l rfl (.inl rfl) 7 #[x.v, gv 1 4 9] fun a u hb hA hd => ⟨?_, HA.out.enc u ((HT.out.below BW.out).below hb)⟩
      have q0 := ev_of (hd 0 11 rfl rfl _ rfl)
      have q1 := ev_of (hd 1 12 rfl rfl _ rfl)
      unfold execOp
      simp [go_sem, q0, q1]
    case s3 => exact st4_move 2 13 rfl (.inl rfl) rfl rfl rfl
    case s4 => exact st4_ext0 3 10 l rfl rfl (.inl rfl) rfl rfl rfl
    case s5 => exact st4_ext1 3 10 l rfl rfl (.inl rfl) rfl rfl rfl
    case s6 => exact st4_assign 4 14 rfl (.inl rfl) rfl rfl rfl
    case s7 => exact st4_assign 5 15 rfl (.inl rfl) rfl rfl rfl
  case rest2 =>
    intro vs u hb hR
    obtain ⟨A, c, e6, hc, hr⟩ := hR 6 (by decide)
    have e7 := hR 7 (by decide)
    replace e7 : vs 7 = .int .i64 0 := e7
    clear hR
    simp only [putsFrom, Act.put, List.setIfInBounds_toArray, List.set_cons_succ, List.set_cons_zero, e6, e7]
    clear e6 e7
    generalize vs 0 = v0
    generalize vs 1 = v1
    generalize vs 2 = v2
    generalize vs 3 = v3
    generalize vs 4 = v4
    generalize vs 5 = v5
    clear vs
    rw [hl8.out] at hc ⊢
    have bw2 := BW.out.trans (Below.mono hb BW.out.size)
    have ix2 := HI.out.below hb HI.out.lt
    clear HI BW hb
    have HR2 := Lib.hid hr
    have BW2 := Lib.hid bw2
    have HI2 := Lib.hid ix2
    have HC := Lib.hid hc
    clear hr bw2 ix2 hc
    go_wp2_with (fail)
    refine (geom_calls _).mono ?_
    rintro e u3 ⟨rfl, hb3⟩
    have bw3 := BW2.out.trans (hb3.mono BW2.out.size)
    have ix3 := HI2.out.below hb3 HI2.out.lt
    have hr3 := HR2.out.below hb3
    clear BW2 HI2 HR2 hb3
    have HR3 := Lib.hid hr3
    have BW3 := Lib.hid bw3
    have HI3 := Lib.hid ix3
    clear hr3 bw3 ix3
    go_wp2_with (fail)
    refine (HA.out.dec A c u3 HR3.out HC.out (HT.out.below BW3.out)).mono ?_
    rintro e u4 ⟨rfl, hb4⟩
    have bw4 := BW3.out.trans (hb4.mono BW3.out.size)
    have ix4 := HI3.out.below hb4 HI3.out.lt
    have hr4 := HR3.out.below hb4
    clear BW3 HI3 HR3 hb4
    have hon : On u4 (u4.alloc (.cells x.c 25)) := (Below.refl _ _).alloc (Nat.le_refl _) _
    have HI5 := Lib.hid (ix4.below hon ix4.lt)
    have HR5 := Lib.hid (hr4.below hon)
    have BW5 := Lib.hid (bw4.trans (Below.mono hon bw4.size))
    have HY5 := Lib.hid (Ib.new u4 x)
    clear hon bw4 ix4 hr4
    go_upto_region 4 with (fail)
    generalize u4.heap.size = gy at *
    generalize u4.alloc (.cells x.c 25) = V at *
    clear u4
    refine wp_region3 zI 7 7 (fun k => decide (k < 5) || decide (k = 6)) (fun k => decide (k = 7)) 7 [.row [0, 0, 0, 0, 0, 0, 0, 0], .val (gv 1 4 9), .val (.tuple #[zI.v, errV (some (7, 7))]), .val (.tuple #[zI.v, errV (some (7, 7))]), .val zI.v, .val (errV (some (7, 7))), .ino, .inoDone 6, .val (errV (some (7, 7)))]
      (by kernel_rfl) (by kernel_rfl) (by kernel_rfl) (by kernel_rfl) (by kernel_rfl) (by kernel_rfl) ?steps4 ?rest4
    case steps4 =>
      refine ⟨?s0, ?s1, ?s2, ?s3, ?s4, ?s5, ?s6, ?s7, ?s8, trivial⟩
      case s0 => exact st3_make 23 rfl rfl rfl rfl rfl
      case s1 =>
        refine st3_call _ 24 rfl rfl rfl rfl rfl 21 #[] fun a u hb hA hd => ⟨?_, geom_calls u⟩
        unfold execOp
        simp [go_sem]
      case s2 =>
        refine st3_rcall _ 25 rfl rfl rfl rfl rfl 0 23 [0, 0, 0, 0, 0, 0, 0, 0] rfl rfl rfl 15 (fun r => #[r, gv 1 4 9]) fun a u A c hb hA hd hv hc hr => ⟨?_, dec_zeros A c u hr hc ((HT.out.below BW5.out).below hb)⟩
        have q0 := ev_of (hd 1 24 rfl rfl _ rfl)
        unfold execOp
        have hv := ev_of hv
        simp [go_sem, q0, hv]
      case s3 =>
        exact st3_val _ 22 rfl rfl rfl rfl fun a u hb hA hd => by
          have q0 := ev_of (hd 2 25 rfl rfl _ rfl)
          unfold execOp
          simp [go_sem, q0]
      case s4 =>
        exact st3_val _ 26 rfl rfl rfl rfl fun a u hb hA hd => by
          have q0 := ev_of (hd 3 22 rfl rfl _ rfl)
          unfold execOp
          simp [go_sem, q0, Instr.extract]
      case s5 =>
        exact st3_val _ 27 rfl rfl rfl rfl fun a u hb hA hd => by
          have q0 := ev_of (hd 3 22 rfl rfl _ rfl)
          unfold execOp
          simp [go_sem, q0, Instr.extract]
      case s6 => exact st3_ino 6 rfl rfl rfl rfl rfl
      case s7 => exact st3_sino 6 4 6 26 rfl rfl rfl rfl rfl (by decide) rfl rfl rfl rfl rfl rfl
      case s8 =>
        exact st3_val _ 7 rfl rfl rfl rfl fun a u hb hA hd => by
          have q0 := ev_of (hd 5 27 rfl rfl _ rfl)
          unfold execOp
          simp [go_sem, q0]
    case rest4 =>
      intro vs u hb hR
      have e8 := hR 8 (by decide)
      replace e8 : vs 8 = errV (some (7, 7)) := e8
      clear hR
      simp only [putsFrom, Act.put, List.setIfInBounds_toArray, List.set_cons_succ, List.set_cons_zero, e8]
      clear e8
      generalize vs 0 = p0
      generalize vs 1 = p1
      generalize vs 2 = p2
      generalize vs 3 = p3
      generalize vs 4 = p4
      generalize vs 5 = p5
      generalize vs 6 = p6
      clear vs
      have ix6 := HI5.out.below hb HI5.out.lt
      have iy6 := HY5.out.below hb HY5.out.lt
      have hr6 := HR5.out.below hb
      have bw6 := BW5.out.trans (Below.mono hb BW5.out.size)
      obtain ⟨ad, rfl, hlr, hcs⟩ := hr6 (by rw [hl8.out]; decide)
      obtain ⟨ab, ao, ap⟩ := ad
      have c0 := hcs 0 (by rw [hl8.out]; decide)
      have c3 := hcs 3 (by rw [hl8.out]; decide)
      rw [HA.out.w0] at c0
      rw [HA.out.w3] at c3
      obtain rfl := spot_none c0
      replace c0 : u.cell? ⟨ab, ao + 0, none⟩ = some (.int .u64 4294967554) := c0
      replace c3 : u.cell? ⟨ab, ao + 3, none⟩ = some (.int .u64 67108867) := c3
      have hab : ab < u.heap.size := hlr
      clear hb HI5 HY5 HR5 BW5 hr6 hcs hlr
      have HIx := Lib.hid ix6
      have HIy := Lib.hid iy6
      have BW6 := Lib.hid bw6
      have C0 := Lib.hid c0
      have C3 := Lib.hid c3
      clear ix6 iy6 bw6 c0 c3
      go_upto_region 5 with (fail)
      refine wp_region4 [.val (.int .i64 0), .val (.bool true), .val (.bool true), .val (.slice (some ⟨ab, ao, none⟩) 8 c), .val (.int .i64 8), .val (.bool true), .val (.bool true), .val (.bool true), .val (.slice (some ⟨ab, ao, none⟩) 8 c), .val (.pointer (some ⟨ab, ao + 0, none⟩)), .val (.int .u64 4294967554), .val (.bool true), .val (.bool true), .val (.bool true), .val (.slice (some ⟨ab, ao, none⟩) 8 c), .val (.pointer (some ⟨ab, ao + 3, none⟩)), .val (.int .u64 67108867), .val (.bool true), .val (.bool true), .val (.bool true), .val x.v, .val x.v, .val (.bool true), .val (.bool true), .val (.bool true), .val .nilIface, .val (.bool true), .val (.bool true), .val (.bool true), .val (errV (some (7, 7))), .val (.agg #[.int .i64 7, .int .i64 7]), .val (.bool true), .val (.bool true), .val (.bool true), .val x.v, .val (gv 1 4 9), .val (.bool true), .val (.bool true), .val (.bool true), .val x.v, .val (gv 0 0 0), .val (.bool false), .val (.bool true), .val (.bool true), .val (.bool true)] (by kernel_rfl) (by kernel_rfl) (by kernel_rfl) ?steps5 ?rest5
      case steps5 =>
        refine ⟨?s0, ?s1, ?s2, ?s3, ?s4, ?s5, ?s6, ?s7, ?s8, ?s9, ?s10, ?s11, ?s12, ?s13, ?s14, ?s15, ?s16, ?s17, ?s18, ?s19, ?s20, ?s21, ?s22, ?s23, ?s24, ?s25, ?s26, ?s27, ?s28, ?s29, ?s30, ?s31, ?s32, ?s33, ?s34, ?s35, ?s36, ?s37, ?s38, ?s39, ?s40, ?s41, ?s42, ?s43, ?s44, trivial⟩
        case s0 =>
          exact st4_val _ rfl (.inl rfl) fun a u hb hA hd => by
              have q0 := ev_of (show a.eval (.tmp 3) = .int .i64 0 from hA.eval 3 rfl)
              unfold execOp
              simp [go_sem, q0]
        case s1 =>
          exact st4_val _ rfl (.inl rfl) fun a u hb hA hd => by
              have q0 := ev_of (hd 0 28 rfl rfl _ rfl)
              unfold execOp
              simp [go_sem, q0]
        case s2 =>
          exact st4_move 1 29 rfl (.inl rfl) rfl rfl rfl
        case s3 =>
          exact st4_val _ rfl (.inr ⟨2, 30, true, rfl, rfl, rfl, rfl⟩) fun a u hb hA hd => by
              have q0 := ev_of (show a.eval (.tmp 2) = .slice (some ⟨ab, ao, none⟩) 8 c from hA.eval 2 rfl)
              unfold execOp
              simp [go_sem, q0]
        case s4 =>
          exact st4_val _ rfl (.inr ⟨2, 30, true, rfl, rfl, rfl, rfl⟩) fun a u hb hA hd => run_len rfl _ 8 c (hd 3 31 rfl rfl _ rfl)
        case s5 =>
          exact st4_val _ rfl (.inr ⟨2, 30, true, rfl, rfl, rfl, rfl⟩) fun a u hb hA hd => by
              have q0 := ev_of (hd 4 32 rfl rfl _ rfl)
              unfold execOp
              simp [go_sem, q0]
        case s6 =>
          exact st4_val _ rfl (.inl rfl) fun a u hb hA hd => (run_pickT rfl (hd 2 30 rfl rfl _ rfl)).trans (by rw [hd 5 33 rfl rfl _ rfl])
        case s7 =>
          exact st4_move 6 34 rfl (.inl rfl) rfl rfl rfl
        case s8 =>
          exact st4_val _ rfl (.inr ⟨7, 35, true, rfl, rfl, rfl, rfl⟩) fun a u hb hA hd => by
              have q0 := ev_of (show a.eval (.tmp 2) = .slice (some ⟨ab, ao, none⟩) 8 c from hA.eval 2 rfl)
              unfold execOp
              simp [go_sem, q0]
        case s9 =>
          exact st4_val _ rfl (.inr ⟨7, 35, true, rfl, rfl, rfl, rfl⟩) fun a u hb hA hd => run_iaddr 0 rfl ab ao 8 c (hd 8 36 rfl rfl _ rfl) (by decide)
        case s10 =>
          exact st4_val _ rfl (.inr ⟨7, 35, true, rfl, rfl, rfl, rfl⟩) fun a u hb hA hd => run_load64 rfl ⟨ab, ao + 0, none⟩ _ (hd 9 37 rfl rfl _ rfl) ((World.cell?_of_block (Below.block hb ab hab)).trans C0.out)
        case s11 =>
          exact st4_val _ rfl (.inr ⟨7, 35, true, rfl, rfl, rfl, rfl⟩) fun a u hb hA hd => by
              have q0 := ev_of (hd 10 38 rfl rfl _ rfl)
              unfold execOp
              simp [go_sem, q0]
        case s12 =>
          exact st4_val _ rfl (.inl rfl) fun a u hb hA hd => (run_pickT rfl (hd 7 35 rfl rfl _ rfl)).trans (by rw [hd 11 39 rfl rfl _ rfl])
        case s13 =>
          exact st4_move 12 40 rfl (.inl rfl) rfl rfl rfl
        case s14 =>
          exact st4_val _ rfl (.inr ⟨13, 41, true, rfl, rfl, rfl, rfl⟩) fun a u hb hA hd => by
              have q0 := ev_of (show a.eval (.tmp 2) = .slice (some ⟨ab, ao, none⟩) 8 c from hA.eval 2 rfl)
              unfold execOp
              simp [go_sem, q0]
        case s15 =>
          exact st4_val _ rfl (.inr ⟨13, 41, true, rfl, rfl, rfl, rfl⟩) fun a u hb hA hd => run_iaddr 3 rfl ab ao 8 c (hd 14 42 rfl rfl _ rfl) (by decide)
        case s16 =>
          exact st4_val _ rfl (.inr ⟨13, 41, true, rfl, rfl, rfl, rfl⟩) fun a u hb hA hd => run_load64 rfl ⟨ab, ao + 3, none⟩ _ (hd 15 43 rfl rfl _ rfl) ((World.cell?_of_block (Below.block hb ab hab)).trans C3.out)
        case s17 =>
          exact st4_val _ rfl (.inr ⟨13, 41, true, rfl, rfl, rfl, rfl⟩) fun a u hb hA hd => by
              have q0 := ev_of (hd 16 44 rfl rfl _ rfl)
              unfold execOp
              simp [go_sem, q0]
        case s18 =>
          exact st4_val _ rfl (.inl rfl) fun a u hb hA hd => (run_pickT rfl (hd 13 41 rfl rfl _ rfl)).trans (by rw [hd 17 45 rfl rfl _ rfl])
        case s19 =>
          exact st4_move 18 46 rfl (.inl rfl) rfl rfl rfl
        case s20 =>
          exact st4_val _ rfl (.inr ⟨19, 47, true, rfl, rfl, rfl, rfl⟩) fun a u hb hA hd => run_load_ino rfl gy x (hA.eval 4 rfl) (HIy.out.below hb HIy.out.lt)
        case s21 =>
          exact st4_val _ rfl (.inr ⟨19, 47, true, rfl, rfl, rfl, rfl⟩) fun a u hb hA hd => run_load_ino rfl w.heap.size x (hA.eval 1 rfl) (HIx.out.below hb HIx.out.lt)
        case s22 =>
          exact st4_val _ rfl (.inr ⟨19, 47, true, rfl, rfl, rfl, rfl⟩) fun a u hb hA hd => run_eqI rfl x (hd 20 48 rfl rfl _ rfl) (hd 21 49 rfl rfl _ rfl)
        case s23 =>
          exact st4_val _ rfl (.inl rfl) fun a u hb hA hd => (run_pickT rfl (hd 19 47 rfl rfl _ rfl)).trans (by rw [hd 22 50 rfl rfl _ rfl])
        case s24 =>
          exact st4_move 23 51 rfl (.inl rfl) rfl rfl rfl
        case s25 =>
          exact st4_val _ rfl (.inr ⟨24, 52, true, rfl, rfl, rfl, rfl⟩) fun a u hb hA hd => by
              have q0 := ev_of (show a.eval (.tmp 5) = .nilIface from hA.eval 5 rfl)
              unfold execOp
              simp [go_sem, q0]
        case s26 =>
          exact st4_val _ rfl (.inr ⟨24, 52, true, rfl, rfl, rfl, rfl⟩) fun a u hb hA hd => by
              have q0 := ev_of (hd 25 53 rfl rfl _ rfl)
              unfold execOp
              simp [go_sem, q0]
        case s27 =>
          exact st4_val _ rfl (.inl rfl) fun a u hb hA hd => (run_pickT rfl (hd 24 52 rfl rfl _ rfl)).trans (by rw [hd 26 54 rfl rfl _ rfl])
        case s28 =>
          exact st4_move 27 55 rfl (.inl rfl) rfl rfl rfl
        case s29 =>
          exact st4_val _ rfl (.inr ⟨28, 56, true, rfl, rfl, rfl, rfl⟩) fun a u hb hA hd => by
              have q0 := ev_of (show a.eval (.tmp 7) = errV (some (7, 7)) from hA.eval 7 rfl)
              unfold execOp
              simp [go_sem, q0]
        case s30 =>
          exact st4_val _ rfl (.inr ⟨28, 56, true, rfl, rfl, rfl, rfl⟩) fun a u hb hA hd => by
              unfold execOp
              simp [go_sem]
        case s31 =>
          refine st4_call _ rfl (.inr ⟨28, 56, true, rfl, rfl, rfl, rfl⟩) 22 #[errV (some (7, 7)), .agg #[.int .i64 7, .int .i64 7]] fun a u hb hA hd => ⟨?_, told_at 7 7 u (by decide) ((HE.out.below BW6.out).below hb)⟩
          have q0 := ev_of (hd 29 57 rfl rfl _ rfl)
          have q1 := ev_of (hd 30 58 rfl rfl _ rfl)
          unfold execOp
          simp [go_sem, q0, q1]
        case s32 =>
          exact st4_val _ rfl (.inl rfl) fun a u hb hA hd => (run_pickT rfl (hd 28 56 rfl rfl _ rfl)).trans (by rw [hd 31 59 rfl rfl _ rfl])
        case s33 =>
          exact st4_move 32 60 rfl (.inl rfl) rfl rfl rfl
        case s34 =>
          exact st4_val _ rfl (.inr ⟨33, 61, true, rfl, rfl, rfl, rfl⟩) fun a u hb hA hd => run_load_ino rfl w.heap.size x (hA.eval 1 rfl) (HIx.out.below hb HIx.out.lt)
        case s35 =>
          refine st4_call _ rfl (.inr ⟨33, 61, true, rfl, rfl, rfl, rfl⟩) 21 #[] fun a u hb hA hd => ⟨?_, geom_calls u⟩
          unfold execOp
          simp [go_sem]
        case s36 =>
          refine st4_call _ rfl (.inr ⟨33, 61, true, rfl, rfl, rfl, rfl⟩) 9 #[x.v, gv 1 4 9] fun a u hb hA hd => ⟨?_, HA.out.may u⟩
          have q0 := ev_of (hd 34 62 rfl rfl _ rfl)
          have q1 := ev_of (hd 35 63 rfl rfl _ rfl)
          unfold execOp
          simp [go_sem, q0, q1]
        case s37 =>
          exact st4_val _ rfl (.inl rfl) fun a u hb hA hd => (run_pickT rfl (hd 33 61 rfl rfl _ rfl)).trans (by rw [hd 36 64 rfl rfl _ rfl])
        case s38 =>
          exact st4_move 37 65 rfl (.inl rfl) rfl rfl rfl
        case s39 =>
          exact st4_val _ rfl (.inr ⟨38, 66, true, rfl, rfl, rfl, rfl⟩) fun a u hb hA hd => run_load_ino rfl w.heap.size x (hA.eval 1 rfl) (HIx.out.below hb HIx.out.lt)
        case s40 =>
          exact st4_val _ rfl (.inr ⟨38, 66, true, rfl, rfl, rfl, rfl⟩) fun a u hb hA hd => by
              unfold execOp
              simp [go_sem]
        case s41 =>
          refine st4_call _ rfl (.inr ⟨38, 66, true, rfl, rfl, rfl, rfl⟩) 9 #[x.v, gv 0 0 0] fun a u hb hA hd => ⟨?_, HA.out.not u⟩
          have q0 := ev_of (hd 39 67 rfl rfl _ rfl)
          have q1 := ev_of (hd 40 68 rfl rfl _ rfl)
          unfold execOp
          simp [go_sem, q0, q1]
        case s42 =>
          exact st4_val _ rfl (.inr ⟨38, 66, true, rfl, rfl, rfl, rfl⟩) fun a u hb hA hd => by
              have q0 := ev_of (hd 41 69 rfl rfl _ rfl)
              unfold execOp
              simp [go_sem, q0]
        case s43 =>
          exact st4_val _ rfl (.inl rfl) fun a u hb hA hd => (run_pickT rfl (hd 38 66 rfl rfl _ rfl)).trans (by rw [hd 42 70 rfl rfl _ rfl])
        case s44 =>
          exact st4_assign 43 71 rfl (.inl rfl) rfl rfl rfl
      case rest5 =>
        intro vs u2 hb hR
        have e44 := hR 44 (by decide)
        replace e44 : vs 44 = .bool true := e44
        clear hR
        simp only [putsFrom, Act.put, List.setIfInBounds_toArray, List.set_cons_succ, List.set_cons_zero, e44]
        go_wp2_with (fail)
        go_ret
        exact ⟨rfl, BW6.out.trans (Below.mono hb BW6.out.size)⟩
end Go.Proofs.YtppnicdhahgigaaDoor
