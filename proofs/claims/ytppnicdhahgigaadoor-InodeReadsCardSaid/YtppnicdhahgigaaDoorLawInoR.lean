/- InodeReads: whatever it is called with, it hands back true; nothing that was there has turned. -/
import Derived.Test.YtppnicdhahgigaaDoorLawIno0
namespace Go.Proofs.YtppnicdhahgigaaDoor
open Go.RowKit SumMath WordMath
set_option maxRecDepth 100000 in
set_option maxHeartbeats 2000000 in
theorem ireads_calls (A : Option Addr) (l : List Nat) (c : Nat) (P I B : Int) (w : World) (hr : Row w A l) (hl : Wd l) (hlen : l.length ≤ 100) (hcap : l.length ≤ c) (hT : TabAt w) (hE : ErrAt w) :
    Calls Tryd.prog 13 #[.slice A l.length c, gv P I B] w fun e w' => e = .returned (.bool true) ∧ On w w' := by
  have hD := fun A c W (hr : Row W A l) (hc : l.length ≤ c) (hT : TabAt W) => dec_calls A l c P I B W hr hl hc hT
  have hR := fun A c W (hr : Row W A l) (hc : l.length ≤ c) => rdec_calls A l c P I B W hr hl hc
  have hTo := fun W (hE : ErrAt W) => told_calls l P I B W hE
  obtain ⟨f0, f1, hfv⟩ : ∃ f0 f1 : Int, fV (decBad l P I B) = .agg #[.int .i64 f0, .int .i64 f1] := by
    cases decBad l P I B with
    | none => exact ⟨0, 0, rfl⟩
    | some kn => exact ⟨kn.1, kn.2, rfl⟩
  rw [hfv] at hR hTo
  generalize decI l P I B = q at *
  generalize errV (decBad l P I B) = ev at *
  have HT := Lib.hid hT
  have HE := Lib.hid hE
  have HD := Lib.hid hD
  have HR := Lib.hid hR
  have HTo := Lib.hid hTo
  have kss := Lib.hid (sameV_self l)
  obtain ⟨i0, hi0, hz0, hs0, hb0⟩ := info_parts u64_info
  have HZ := Lib.hid hz0
  have HS := Lib.hid hs0
  have HB := Lib.hid hb0
  have HI := Lib.hid hi0
  clear hz0 hs0 hb0 hi0 hT hE hD hR hTo hfv hl
  have b0 := on_alloc w (.cells #[.int .i64 P, .int .i64 I, .int .i64 B] 27)
  have G0 : (w.alloc (.cells #[.int .i64 P, .int .i64 I, .int .i64 B] 27)).heap[w.heap.size]? = some (.cells #[.int .i64 P, .int .i64 I, .int .i64 B] 27) := heap_alloc_new w _
  have hr0 := hr.below b0
  have B0 := Lib.hid b0
  have G0 := Lib.hid G0
  clear b0
  go_enter Tryd.func13, Tryd.ntmps13
  go_wp2_with (at_builtin; refine wpList_cloneC rfl (.const (.slice none 0 0)) (.tmp 10) 28 rfl 44 i0 Tryd.underlying28 HI.out HZ.out HS.out HB.out A l c rfl rfl hr0 (by omega) ?_; intro A1 c1 w1 hr1 hf1 hb1 _ hc1; have G1 := (Below.block hb1 _ (lt_of_cells G0.out)).trans G0.out; obtain ⟨g0, g1, g2⟩ := three_cells G1; have hlg := lt_of_cells G1)
  have bw1 := B0.out.trans hb1
  have hr01 := hr0.below hb1
  clear hb1 hf1 B0 G0 hr0 g0 g1 g2 hlg
  refine (HD.out A1 c1 w1 hr1 hc1 (HT.out.below bw1)).mono ?_
  rintro e w2 ⟨rfl, hb2⟩
  have bw2 := bw1.trans hb2
  have G2 := (Below.block hb2 _ (lt_of_cells G1)).trans G1
  have hr02 := hr01.below hb2
  have hr12 := hr1.below hb2
  obtain ⟨g0, g1, g2⟩ := three_cells G2
  have hlg := lt_of_cells G2
  have b3 := on_alloc w2 (.cells q.c 25)
  have bw3 := bw2.trans b3
  have hr03 := hr02.below b3
  have hr13 := hr12.below b3
  have I3 := Ib.new w2 q
  clear hb2 hr1 hr01 bw1 G1 b3 bw2 hr02 hr12 G2
  go_wp2_with (fail)
  clear g0 g1 g2 hlg
  refine (HR.out A c _ hr03 hcap).mono ?_
  rintro e w4 ⟨rfl, hb4⟩
  have bw4 := bw3.trans hb4
  have I4 := I3.below hb4 I3.lt
  have b5 := on_two w4 (.cells q.c 25) (.cells #[.int .i64 f0, .int .i64 f1] 51)
  have bw5 := bw4.trans b5
  have hr05 := (hr03.below hb4).below b5
  have hr15 := (hr13.below hb4).below b5
  obtain ⟨x0, x1, x2, x3, x4, x5, x6, x7, x8, x9, x10, x11, x12⟩ := I4.cells
  have hlx := I4.lt
  have eI : ∀ W : World, (Op.equalIn 10000 25 (.agg #[.int .u8 q.K, .int .i64 q.L, .int .u32 q.G, .int .i64 q.S, .int .i64 q.A, .int .i64 q.M, .int .i64 q.H0, .int .i64 q.H1, .int .i64 q.H2, .int .i64 q.H3, .int .i64 q.P, .int .i64 q.T, .int .i64 q.C]) (.agg #[.int .u8 q.K, .int .i64 q.L, .int .u32 q.G, .int .i64 q.S, .int .i64 q.A, .int .i64 q.M, .int .i64 q.H0, .int .i64 q.H1, .int .i64 q.H2, .int .i64 q.H3, .int .i64 q.P, .int .i64 q.T, .int .i64 q.C])).run Tryd.prog W = .ok true W := fun W => eqI q W
  clear hb4 hr03 hr13 bw3 I3 b5 bw4 I4
  go_wp2_with (fail)
  clear x0 x1 x2 x3 x4 x5 x6 x7 x8 x9 x10 x11 x12 hlx eI
  refine (HTo.out _ (HE.out.below bw5)).mono ?_
  rintro e w6 ⟨rfl, hb6⟩
  have bw6 := bw5.trans hb6
  have hr06 := hr05.below hb6
  have hr16 := hr15.below hb6
  clear hb6 bw5 hr05 hr15
  have hS := same_calls A1 A l l c1 c w6 hr16 hr06 (by omega) (by omega)
  rw [kss.out] at hS
  have HS2 := Lib.hid hS
  clear hS hr16 hr06
  go_wp2_with (fail)
  refine HS2.out.mono ?_
  rintro e w7 ⟨rfl, m, rfl⟩
  go_wp2_with (fail)
  go_ret
  exact ⟨rfl, bw6.trans (on_drewN w6 m)⟩
set_option maxRecDepth 100000 in
set_option maxHeartbeats 2000000 in
theorem ireads_8 (A : Option Addr) (l : List Nat) (c : Nat) (P I B : Int) (w : World) (hr : Row w A l) (hl : Wd l) (h8 : l.length = 8) (hcap : l.length ≤ c) (hT : TabAt w) (hE : ErrAt w) :
    Calls Tryd.prog 4 #[.slice A l.length c, gv P I B] w fun e w' => e = .returned (.bool true) ∧ On w w' := by
  have HT := Lib.hid hT
  have HE := Lib.hid hE
  have b0 := on_alloc w (.cells #[.int .i64 P, .int .i64 I, .int .i64 B] 27)
  have G0 : (w.alloc (.cells #[.int .i64 P, .int .i64 I, .int .i64 B] 27)).heap[w.heap.size]? = some (.cells #[.int .i64 P, .int .i64 I, .int .i64 B] 27) := heap_alloc_new w _
  have hD := ireads_calls A l c P I B _ (hr.below b0) hl (by omega) hcap (hT.below b0) (hE.below b0)
  have hls : (sealed (l.take 7)).length = 8 := by simp [sealed, h8]
  have hlt : (l.take 7).length = 7 := by rw [List.length_take, h8]; rfl
  have hwd := wd_sealed (hl.take 7)
  have hw7 := hl.take 7
  have hr7 := (hr.below b0).take 7
  generalize hs : sealed (l.take 7) = s at *
  rw [h8] at hD hcap ⊢
  have HL := Lib.hid hls
  have HLT := Lib.hid hlt
  have HWD := Lib.hid hwd
  have HW7 := Lib.hid hw7
  have HR7 := Lib.hid hr7
  have HSE := Lib.hid hs
  have HC := Lib.hid hcap
  clear hls hlt hwd hw7 hr7 hs h8 hl hr hcap
  have HD := Lib.hid hD
  have B0 := Lib.hid b0
  have G0 := Lib.hid G0
  clear b0 hD hT hE
  go_enter Tryd.func4, Tryd.ntmps4
  go_wp2_with (fail)
  refine HD.out.mono ?_
  rintro e w1 ⟨rfl, hb1⟩
  have bw1 := B0.out.trans hb1
  have g1 := (Below.block hb1 _ (lt_of_cells G0.out)).trans G0.out
  have hr1 := HR7.out.below hb1
  have HR1 := Lib.hid hr1
  clear hr1
  have BW := Lib.hid bw1
  have G1 := Lib.hid g1
  clear bw1 g1 hb1 HD B0 G0
  go_upto_region 5 with (fail)
  refine wp_region4 [.val (.slice A 8 c), .val (.int .i64 8), .val (.bool false), .val (.bool false), .val (.slice A 8 c), .val (.slice A 7 c), .row s, .val (gv P I B), .val (.bool true), .val (.bool true), .val (.bool true), .val (.bool true), .val (.bool true), .val (.bool true)] (by kernel_rfl) (by kernel_rfl) (by kernel_rfl) ?steps ?rest
  case steps =>
    refine ⟨?s0, ?s1, ?s2, ?s3, ?s4, ?s5, ?s6, ?s7, ?s8, ?s9, ?s10, ?s11, ?s12, ?s13, trivial⟩
    case s0 =>
      exact st4_val _ rfl (.inl rfl) fun a u hb hA hd => by
        have q0 := ev_of (show a.eval (.tmp 0) = .slice A 8 c from hA.eval 0 rfl)
        unfold execOp
        simp [go_sem, q0]
    case s1 => exact st4_val _ rfl (.inl rfl) fun a u hb hA hd => run_len rfl A 8 c (hd 0 13 rfl rfl _ rfl)
    case s2 =>
      exact st4_val _ rfl (.inl rfl) fun a u hb hA hd => by
        have q0 := ev_of (hd 1 14 rfl rfl _ rfl)
        
        unfold execOp
        simp [go_sem, q0]
    case s3 => exact st4_move 2 15 rfl (.inl rfl) rfl rfl rfl
    case s4 =>
      exact st4_val _ rfl (.inr ⟨3, 16, false, rfl, rfl, rfl, rfl⟩) fun a u hb hA hd => by
        have q0 := ev_of (show a.eval (.tmp 0) = .slice A 8 c from hA.eval 0 rfl)
        unfold execOp
        simp [go_sem, q0]
    case s5 => exact st4_val _ rfl (.inr ⟨3, 16, false, rfl, rfl, rfl, rfl⟩) fun a u hb hA hd => run_slice7 rfl A 8 c (hd 4 17 rfl rfl _ rfl) (by have := HC.out; omega)
    case s6 =>
      refine st4_row s rfl (.inr ⟨3, 16, false, rfl, rfl, rfl, rfl⟩) 14 #[.slice A 7 c] fun a u hb hA hd => ⟨?_, ?_⟩
      · have q0 := ev_of (hd 5 18 rfl rfl _ rfl)
        unfold execOp
        simp [go_sem, q0]
      · have hS := rseal_calls A (l.take 7) c u (HR1.out.below hb) HW7.out (by rw [HLT.out]; decide)
        rw [HLT.out, HSE.out] at hS
        refine hS.mono ?_
        rintro e w' ⟨A2, c2, rfl, hr2, hf2, hb2, hc2⟩
        exact ⟨A2, c2, rfl, hc2, hr2, hb2⟩
    case s7 => exact st4_val _ rfl (.inr ⟨3, 16, false, rfl, rfl, rfl, rfl⟩) fun a u hb hA hd => run_load_geom rfl w.heap.size P I B (hA.eval 3 rfl) ((Below.block hb _ (lt_of_cells G1.out)).trans G1.out)
    case s8 =>
      refine st4_rcall _ rfl (.inr ⟨3, 16, false, rfl, rfl, rfl, rfl⟩) 6 19 s rfl rfl rfl 13 (fun r => #[r, gv P I B]) fun a u A2 c2 hb hA hd hv hc hr => ⟨?_, ireads_calls A2 s c2 P I B u hr HWD.out (by rw [HL.out]; decide) hc (HT.out.below (BW.out.trans hb)) (HE.out.below (BW.out.trans hb))⟩
      have q0 := ev_of (hd 7 20 rfl rfl _ rfl)
      have hv := ev_of hv
      unfold execOp
      simp [go_sem, q0, hv]
    case s9 => exact st4_val _ rfl (.inl rfl) fun a u hb hA hd => (run_pickF rfl (hd 3 16 rfl rfl _ rfl)).trans (by rw [hd 8 21 rfl rfl _ rfl])
    case s10 => exact st4_move 9 22 rfl (.inl rfl) rfl rfl rfl
    case s11 =>
        refine st4_call _ rfl (.inr ⟨10, 23, true, rfl, rfl, rfl, rfl⟩) 10 #[] fun a u hb hA hd => ⟨?_, alive_calls u (HT.out.below (BW.out.trans hb)) (HE.out.below (BW.out.trans hb))⟩
        unfold execOp
        simp [go_sem]
    case s12 => exact st4_val _ rfl (.inl rfl) fun a u hb hA hd => (run_pickT rfl (hd 10 23 rfl rfl _ rfl)).trans (by rw [hd 11 24 rfl rfl _ rfl])
    case s13 => exact st4_assign 12 25 rfl (.inl rfl) rfl rfl rfl
  case rest =>
    intro vs u hb hR
    have e13 := hR 13 (by decide)
    replace e13 : vs 13 = .bool true := e13
    clear hR
    simp only [putsFrom, Act.put, List.setIfInBounds_toArray, List.set_cons_succ, List.set_cons_zero, e13]
    go_wp2_with (fail)
    go_ret
    exact ⟨rfl, BW.out.trans hb⟩
set_option maxRecDepth 100000 in
set_option maxHeartbeats 2000000 in
theorem ireads_n (A : Option Addr) (l : List Nat) (c : Nat) (P I B : Int) (w : World) (hr : Row w A l) (hl : Wd l) (h8 : ¬ l.length = 8) (hlen : l.length ≤ 40) (hcap : l.length ≤ c) (hT : TabAt w) (hE : ErrAt w) :
    Calls Tryd.prog 4 #[.slice A l.length c, gv P I B] w fun e w' => e = .returned (.bool true) ∧ On w w' := by
  have HT := Lib.hid hT
  have HE := Lib.hid hE
  have b0 := on_alloc w (.cells #[.int .i64 P, .int .i64 I, .int .i64 B] 27)
  have G0 : (w.alloc (.cells #[.int .i64 P, .int .i64 I, .int .i64 B] 27)).heap[w.heap.size]? = some (.cells #[.int .i64 P, .int .i64 I, .int .i64 B] 27) := heap_alloc_new w _
  have hD := ireads_calls A l c P I B _ (hr.below b0) hl (by omega) hcap (hT.below b0) (hE.below b0)
  have hn8 : ¬ ((l.length : Nat) : Int) = 8 := by omega
  have hn40 : ((l.length : Nat) : Int) ≤ 40 := by omega
  generalize l.length = n at *
  have HN8 := Lib.hid hn8
  clear h8 hlen hcap hl hr hn8
  have HD := Lib.hid hD
  have B0 := Lib.hid b0
  have G0 := Lib.hid G0
  clear b0 hD hT hE
  go_enter Tryd.func4, Tryd.ntmps4
  go_wp2_with (fail)
  refine HD.out.mono ?_
  rintro e w1 ⟨rfl, hb1⟩
  have bw1 := B0.out.trans hb1
  have g1 := (Below.block hb1 _ (lt_of_cells G0.out)).trans G0.out
  have BW := Lib.hid bw1
  have G1 := Lib.hid g1
  clear bw1 g1 hb1 HD B0 G0
  go_upto_region 5 with (fail)
  refine wp_region4 [.val (.slice A n c), .val (.int .i64 (n : Nat)), .val (.bool true), .val (.bool true), .any, .any, .any, .any, .any, .val (.bool true), .val (.bool true), .val (.bool true), .val (.bool true), .val (.bool true)] (by kernel_rfl) (by kernel_rfl) (by kernel_rfl) ?steps ?rest
  case steps =>
    refine ⟨?s0, ?s1, ?s2, ?s3, ?s4, ?s5, ?s6, ?s7, ?s8, ?s9, ?s10, ?s11, ?s12, ?s13, trivial⟩
    case s0 =>
      exact st4_val _ rfl (.inl rfl) fun a u hb hA hd => by
        have q0 := ev_of (show a.eval (.tmp 0) = .slice A n c from hA.eval 0 rfl)
        unfold execOp
        simp [go_sem, q0]
    case s1 => exact st4_val _ rfl (.inl rfl) fun a u hb hA hd => run_len rfl A n c (hd 0 13 rfl rfl _ rfl)
    case s2 =>
      exact st4_val _ rfl (.inl rfl) fun a u hb hA hd => by
        have q0 := ev_of (hd 1 14 rfl rfl _ rfl)
        have hn := HN8.out
        unfold execOp
        simp [go_sem, q0, hn]
    case s3 => exact st4_move 2 15 rfl (.inl rfl) rfl rfl rfl
    case s4 => exact st4_skip 3 16 true rfl rfl rfl rfl rfl
    case s5 => exact st4_skip 3 16 true rfl rfl rfl rfl rfl
    case s6 => exact st4_skip 3 16 true rfl rfl rfl rfl rfl
    case s7 => exact st4_skip 3 16 true rfl rfl rfl rfl rfl
    case s8 => exact st4_skip 3 16 true rfl rfl rfl rfl rfl
    case s9 => exact st4_val _ rfl (.inl rfl) fun a u hb hA hd => (run_pickT rfl (hd 3 16 rfl rfl _ rfl)).trans rfl
    case s10 => exact st4_move 9 22 rfl (.inl rfl) rfl rfl rfl
    case s11 =>
        refine st4_call _ rfl (.inr ⟨10, 23, true, rfl, rfl, rfl, rfl⟩) 10 #[] fun a u hb hA hd => ⟨?_, alive_calls u (HT.out.below (BW.out.trans hb)) (HE.out.below (BW.out.trans hb))⟩
        unfold execOp
        simp [go_sem]
    case s12 => exact st4_val _ rfl (.inl rfl) fun a u hb hA hd => (run_pickT rfl (hd 10 23 rfl rfl _ rfl)).trans (by rw [hd 11 24 rfl rfl _ rfl])
    case s13 => exact st4_assign 12 25 rfl (.inl rfl) rfl rfl rfl
  case rest =>
    intro vs u hb hR
    have e13 := hR 13 (by decide)
    replace e13 : vs 13 = .bool true := e13
    clear hR
    simp only [putsFrom, Act.put, List.setIfInBounds_toArray, List.set_cons_succ, List.set_cons_zero, e13]
    go_wp2_with (fail)
    go_ret
    exact ⟨rfl, BW.out.trans hb⟩
set_option maxRecDepth 100000 in
theorem inreads_calls (A : Option Addr) (l : List Nat) (c : Nat) (P I B : Int) (w : World) (hr : Row w A l) (hl : Wd l) (hlen : l.length ≤ 9223372036854775807) (hcap : l.length ≤ c) (hT : TabAt w) (hE : ErrAt w) :
    Calls Tryd.prog 4 #[.slice A l.length c, gv P I B] w fun e w' => e = .returned (.bool true) ∧ Below w.heap.size w w' := by
  by_cases h40 : 40 < l.length
  · have HT := Lib.hid hT
    have HE := Lib.hid hE
    have B0 := Lib.hid (on_alloc w (.cells #[.int .i64 P, .int .i64 I, .int .i64 B] 27))
    clear hT hE
    go_enter Tryd.func4, Tryd.ntmps4
    go_wp2_with (fail)
    refine (alive_calls _ (HT.out.below B0.out) (HE.out.below B0.out)).mono ?_
    rintro e w' ⟨rfl, hb⟩
    go_wp2_with (fail)
    go_ret
    exact ⟨rfl, B0.out.trans hb⟩
  · by_cases h8 : l.length = 8
    · exact ireads_8 A l c P I B w hr hl h8 hcap hT hE
    · exact ireads_n A l c P I B w hr hl h8 (by omega) hcap hT hE
end Go.Proofs.YtppnicdhahgigaaDoor
