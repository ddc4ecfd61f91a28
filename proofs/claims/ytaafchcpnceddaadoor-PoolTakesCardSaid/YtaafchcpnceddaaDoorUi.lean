/- PoolTakes and PoolDrops: for every input the law returns true; nothing that was there has turned. -/
import Derived.Test.YtaafchcpnceddaaDoorUh
set_option linter.unusedSimpArgs false
set_option linter.unusedVariables false
namespace Go.Proofs.YtaafchcpnceddaaDoor
open Go.RowKit WordMath
theorem takeG_small (l : List Nat) (n k : Int) (h : l.length ≤ 65536) : (takeG l n k).length ≤ 140737488355328 := by
  unfold takeG
  split
  · rename_i h0
    obtain ⟨hv, h1, h2⟩ := takeE_0 h0
    have h3 := frN_le l n
    have h4 := validB_iff.1 hv
    have h5 := took_le l n.toNat k.toNat
    rw [up_length]
    omega
  · simp
theorem takeR_small (l : List Nat) (n k : Int) (h : l.length ≤ 65536) : (takeR l n k).length ≤ 140737488355328 := by
  unfold takeR
  split
  · rw [onsL_len]; omega
  · simp
theorem turn_small (l m : List Nat) (h : l.length ≤ 65536) : (ni (turnedL l m)).length ≤ 140737488355328 := by
  unfold ni turnedL
  rw [List.length_map]
  refine Nat.le_trans (List.length_filter_le _ _) ?_
  rw [List.length_range]
  omega
set_option maxRecDepth 100000 in
set_option maxHeartbeats 1000000 in
theorem takes_law (A : Option Addr) (l : List Nat) (c : Nat) (B : Option Addr) (m : List Nat) (d : Nat) (n k : Int) (w : World) (hn : -9223372036854775808 ≤ n) (hn2 : n ≤ 9223372036854775807) (hr : Row w A l) (hl : Wd l) (hll : l.length ≤ 9223372036854775807) (hs : Row w B m) (hml : m.length ≤ 9223372036854775807) (hT : TabAt w) :
    Calls Tryd.prog 3 #[.slice A l.length c, .slice B m.length d, .int .i64 n, .int .i64 k] w fun e w' => e = .returned (.bool true) ∧ Below w.heap.size w w' := by
  have HT := Lib.hid hT
  clear hT
  by_cases h1 : 40 < l.length
  · go_enter Tryd.func3, Tryd.ntmps3
    go_wp2_with (first | (go_at_call 8; refine (large_calls A l c w hll).mono ?_; rintro e w' ⟨rfl, rfl⟩) | (go_at_call 9; refine (alive_calls _ HT.out).mono ?_; rintro e w' ⟨rfl, hb⟩))
    go_ret
    exact ⟨rfl, hb⟩
  by_cases h2 : 40 < m.length
  · go_enter Tryd.func3, Tryd.ntmps3
    have d1 : decide (40 < l.length) = false := decide_eq_false h1
    have d2 : decide (40 < m.length) = true := decide_eq_true h2
    go_wp2_with (fail)
    have c1 := large_calls A l c w hll
    rw [d1] at c1
    refine c1.mono ?_
    clear c1
    rintro e w' ⟨rfl, rfl⟩
    go_wp2_with (fail)
    have c1 := large_calls B m d w hml
    rw [d2] at c1
    refine c1.mono ?_
    clear c1
    rintro e w' ⟨rfl, rfl⟩
    go_wp2_with (fail)
    have c1 := alive_calls w HT.out
    refine c1.mono ?_
    clear c1
    rintro e w' ⟨rfl, hb⟩
    go_wp2_with (fail)
    go_ret
    exact ⟨rfl, hb⟩
  have d1 : decide (40 < l.length) = false := decide_eq_false h1
  have d2 : decide (40 < m.length) = false := decide_eq_false h2
  obtain ⟨j0, hj0, hy0, ht0, hu0⟩ := info_parts u64_info
  have HJ := Lib.hid hj0
  have HY := Lib.hid hy0
  have HTT := Lib.hid ht0
  have HU := Lib.hid hu0
  clear hj0 hy0 ht0 hu0
  obtain ⟨GL, hGL⟩ : ∃ Z, takeG l n k = Z := ⟨_, rfl⟩
  obtain ⟨RL, hRL⟩ : ∃ Z, takeR l n k = Z := ⟨_, rfl⟩
  obtain ⟨TE, hTE⟩ : ∃ Z, takeE l n k = Z := ⟨_, rfl⟩
  obtain ⟨FV, hFV⟩ : ∃ Z, freeV l n = Z := ⟨_, rfl⟩
  obtain ⟨FE, hFE⟩ : ∃ Z, freeE l n = Z := ⟨_, rfl⟩
  obtain ⟨TL, hTL⟩ : ∃ Z, ni (turnedL l m) = Z := ⟨_, rfl⟩
  have bGL : GL.length ≤ 140737488355328 := by
    rw [← hGL]
    exact takeG_small l n k (by omega)
  have bRL : RL.length ≤ 140737488355328 := by
    rw [← hRL]
    exact takeR_small l n k (by omega)
  have bTL : TL.length ≤ 140737488355328 := by
    rw [← hTL]
    exact turn_small l m (by omega)
  go_enter Tryd.func3, Tryd.ntmps3
  go_wp2_with (fail)
  have c1 := large_calls A l c w hll
  rw [d1] at c1
  refine c1.mono ?_
  clear c1
  rintro e w' ⟨rfl, rfl⟩
  go_wp2_with (fail)
  have c1 := large_calls B m d w hml
  rw [d2] at c1
  refine c1.mono ?_
  clear c1
  rintro e w' ⟨rfl, rfl⟩
  clear d1 d2
  have B0 := Lib.hid (Below.refl w.heap.size w)
  have RA := Lib.hid (hr)
  have RB := Lib.hid (hs)
  clear hr hs
  go_wp2_with (at_builtin; refine wpList_clone rfl (.const (.slice none 0 0)) (.tmp 27) 22 rfl 38 j0 Tryd.underlying22 HJ.out HY.out HTT.out HU.out A l c rfl rfl RA.out (by omega) ?_; intro A1 c1 w1 hr1 hf1 hb1 _)
  have hbb := hb1
  have B1 := Lib.hid (B0.out.trans (hbb.mono B0.out.size))
  replace RA := Lib.hid (RA.out.below hbb)
  replace RB := Lib.hid (RB.out.below hbb)
  clear B0 hbb
  have RO := Lib.hid (hr1)
  clear hr1 hf1 hb1
  have c2 := take_calls A1 l c1 n k w1 hn hn2 RO.out hl (by omega) (HT.out.below B1.out)
  refine c2.mono ?_
  clear c2
  rintro e w2 ⟨G1, cG1, R1, cR1, rfl, hgg, hrr, _, hbc⟩
  rw [hGL, hRL, hTE]
  rw [hGL] at hgg
  rw [hRL] at hrr
  have hbb := hbc
  have B2 := Lib.hid (B1.out.trans (hbb.mono B1.out.size))
  replace RA := Lib.hid (RA.out.below hbb)
  replace RB := Lib.hid (RB.out.below hbb)
  replace RO := Lib.hid (RO.out.below hbb)
  clear B1 hbb
  have FG1 := Lib.hid (hgg.cel)
  have FR1 := Lib.hid (hrr)
  clear hgg hrr hbc
  go_wp2_with (fail)
  have c2 := rtake_calls A l c n k w2 hn hn2 RA.out hl (by omega)
  refine c2.mono ?_
  clear c2
  rintro e w3 ⟨G2, cG2, R2, cR2, rfl, hgg, hrr, _, hbc⟩
  rw [hGL, hRL, hTE]
  rw [hGL] at hgg
  rw [hRL] at hrr
  have hbb := hbc
  have B3 := Lib.hid (B2.out.trans (hbb.mono B2.out.size))
  replace RA := Lib.hid (RA.out.below hbb)
  replace RB := Lib.hid (RB.out.below hbb)
  replace RO := Lib.hid (RO.out.below hbb)
  replace FG1 := Lib.hid (FG1.out.below hbb)
  replace FR1 := Lib.hid (FR1.out.below hbb)
  clear B2 hbb
  have FG2 := Lib.hid (hgg.cel)
  have FR2 := Lib.hid (hrr)
  clear hgg hrr hbc
  go_wp2_with (fail)
  have c1 := free_calls A1 l c1 n w3 hn hn2 RO.out hl (by omega)
  rw [hFV, hFE] at c1
  refine c1.mono ?_
  clear c1
  rintro e w' ⟨rfl, rfl⟩
  go_wp2_with (fail)
  have c1 := rfree_calls A l c n w3 hn hn2 RA.out hl (by omega)
  rw [hFV, hFE] at c1
  refine c1.mono ?_
  clear c1
  rintro e w' ⟨rfl, rfl⟩
  go_wp2_with (fail)
  have c1 := isame_calls G1 G2 GL cG1 cG2 w3 FG1.out FG2.out bGL
  refine c1.mono ?_
  clear c1
  rintro e w' ⟨rfl, q, rfl⟩
  have hbb := below_drewN (Below.refl w3.heap.size w3) q
  have B4 := Lib.hid (B3.out.trans (hbb.mono B3.out.size))
  replace RA := Lib.hid (RA.out.below hbb)
  replace RB := Lib.hid (RB.out.below hbb)
  replace RO := Lib.hid (RO.out.below hbb)
  replace FG1 := Lib.hid (FG1.out.below hbb)
  replace FR1 := Lib.hid (FR1.out.below hbb)
  replace FG2 := Lib.hid (FG2.out.below hbb)
  replace FR2 := Lib.hid (FR2.out.below hbb)
  clear B3 hbb
  generalize (w3.drewN q) = v4 at *
  go_wp2_with (fail)
  have c1 := same_calls R1 R2 RL cR1 cR2 v4 FR1.out FR2.out bRL
  refine c1.mono ?_
  clear c1
  rintro e w' ⟨rfl, q, rfl⟩
  have hbb := below_drewN (Below.refl v4.heap.size v4) q
  have B5 := Lib.hid (B4.out.trans (hbb.mono B4.out.size))
  replace RA := Lib.hid (RA.out.below hbb)
  replace RB := Lib.hid (RB.out.below hbb)
  replace RO := Lib.hid (RO.out.below hbb)
  replace FG1 := Lib.hid (FG1.out.below hbb)
  replace FR1 := Lib.hid (FR1.out.below hbb)
  replace FG2 := Lib.hid (FG2.out.below hbb)
  replace FR2 := Lib.hid (FR2.out.below hbb)
  clear B4 hbb
  generalize (v4.drewN q) = v5 at *
  go_wp2_with (fail)
  have c1 := turned_calls A1 B l m c1 d v5 RO.out RB.out (by omega) (by omega)
  refine c1.mono ?_
  clear c1
  rintro e w4 ⟨I1, ci1, rfl, hii, hbc⟩
  rw [hTL]
  rw [hTL] at hii
  have hbb := hbc
  have B6 := Lib.hid (B5.out.trans (hbb.mono B5.out.size))
  replace RA := Lib.hid (RA.out.below hbb)
  replace RB := Lib.hid (RB.out.below hbb)
  replace RO := Lib.hid (RO.out.below hbb)
  replace FG1 := Lib.hid (FG1.out.below hbb)
  replace FR1 := Lib.hid (FR1.out.below hbb)
  replace FG2 := Lib.hid (FG2.out.below hbb)
  replace FR2 := Lib.hid (FR2.out.below hbb)
  clear B5 hbb
  have FI1 := Lib.hid (hii.cel)
  clear hii hbc
  go_wp2_with (fail)
  have c1 := rturned_calls A B l m c d w4 RA.out RB.out (by omega) (by omega)
  refine c1.mono ?_
  clear c1
  rintro e w5 ⟨I2, ci2, rfl, hii, hbc⟩
  rw [hTL]
  rw [hTL] at hii
  have hbb := hbc
  have B7 := Lib.hid (B6.out.trans (hbb.mono B6.out.size))
  replace RA := Lib.hid (RA.out.below hbb)
  replace RB := Lib.hid (RB.out.below hbb)
  replace RO := Lib.hid (RO.out.below hbb)
  replace FG1 := Lib.hid (FG1.out.below hbb)
  replace FR1 := Lib.hid (FR1.out.below hbb)
  replace FG2 := Lib.hid (FG2.out.below hbb)
  replace FR2 := Lib.hid (FR2.out.below hbb)
  replace FI1 := Lib.hid (FI1.out.below hbb)
  clear B6 hbb
  have FI2 := Lib.hid (hii.cel)
  clear hii hbc
  go_wp2_with (fail)
  have c1 := isame_calls I1 I2 TL ci1 ci2 w5 FI1.out FI2.out bTL
  refine c1.mono ?_
  clear c1
  rintro e w' ⟨rfl, q, rfl⟩
  have hbb := below_drewN (Below.refl w5.heap.size w5) q
  have B8 := Lib.hid (B7.out.trans (hbb.mono B7.out.size))
  replace RA := Lib.hid (RA.out.below hbb)
  replace RB := Lib.hid (RB.out.below hbb)
  replace RO := Lib.hid (RO.out.below hbb)
  replace FG1 := Lib.hid (FG1.out.below hbb)
  replace FR1 := Lib.hid (FR1.out.below hbb)
  replace FG2 := Lib.hid (FG2.out.below hbb)
  replace FR2 := Lib.hid (FR2.out.below hbb)
  replace FI1 := Lib.hid (FI1.out.below hbb)
  replace FI2 := Lib.hid (FI2.out.below hbb)
  clear B7 hbb
  generalize (w5.drewN q) = v8 at *
  go_wp2_with (fail)
  have c1 := same_calls A1 A l c1 c v8 RO.out RA.out (by omega)
  refine c1.mono ?_
  clear c1
  rintro e w' ⟨rfl, q, rfl⟩
  have hbb := below_drewN (Below.refl v8.heap.size v8) q
  have B9 := Lib.hid (B8.out.trans (hbb.mono B8.out.size))
  replace RA := Lib.hid (RA.out.below hbb)
  replace RB := Lib.hid (RB.out.below hbb)
  replace RO := Lib.hid (RO.out.below hbb)
  replace FG1 := Lib.hid (FG1.out.below hbb)
  replace FR1 := Lib.hid (FR1.out.below hbb)
  replace FG2 := Lib.hid (FG2.out.below hbb)
  replace FR2 := Lib.hid (FR2.out.below hbb)
  replace FI1 := Lib.hid (FI1.out.below hbb)
  replace FI2 := Lib.hid (FI2.out.below hbb)
  clear B8 hbb
  generalize (v8.drewN q) = v9 at *
  go_wp2_with (fail)
  have c1 := alive_calls v9 (HT.out.below B9.out)
  refine c1.mono ?_
  clear c1
  rintro e w6 ⟨rfl, hbc⟩
  go_wp2_with (fail)
  go_ret
  exact ⟨rfl, B9.out.trans (hbc.mono B9.out.size)⟩
end Go.Proofs.YtaafchcpnceddaaDoor
