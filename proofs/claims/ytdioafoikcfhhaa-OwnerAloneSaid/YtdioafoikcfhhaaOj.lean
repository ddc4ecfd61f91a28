/- The program's Chown. -/
import Derived.Test.YtdioafoikcfhhaaOi
import Derived.Lib.QuietBelow
set_option linter.unusedSimpArgs false
set_option linter.unusedVariables false
set_option linter.unusedSimpArgs false
set_option linter.unusedVariables false
namespace Go.Proofs.Ytdioafoikcfhhaa
open Go.RowKit Go.Sort Go.Lib
def choM (c : Cr) (x : At) (u g : Int) : Int := if idB u && idB g then (if ownsB c x then (if leaveB c x u g then 0 else 601) else 601) else 622
set_option maxRecDepth 100000 in
set_option maxHeartbeats 8000000 in
theorem chown1_calls (c : Cr) (A : Option Addr) (n : Nat) (x : At) (p : ALie) (bc bu bg bk k : Nat) (u g : Int) (w : World) (hv : validB c x = true) (h : AOw w x p) (hcb : Cb w bc c A n) (hcl : CLies w c A)
    (hu : One w bu (.int .i64 u) 3) (hg : One w bg (.int .i64 g) 3) (hk : One w bk (.int .u8 (k : Nat)) 5) :
    Calls Try.prog 43 #[x.v p, .pointer (some ⟨bu, 0, none⟩), .pointer (some ⟨bg, 0, none⟩), .pointer (some ⟨bc, 0, none⟩), .pointer (some ⟨bk, 0, none⟩)] w fun e w' => Ends w (choM c x u g) (choX x k u g) e w' := by
  obtain ⟨V, hV⟩ : ∃ V, V = (w.alloc (.cells (x.c p) 31)).alloc (.cells zAt 31) := ⟨_, rfl⟩
  have S0 : Hid (Wk w V w.heap.size x p (w.heap.size + 1) zAt) := Lib.hid (by rw [hV]; exact Wk.start w h)
  have HM := Lib.hid (valid_parts hv).2
  have HCB := Lib.hid hcb
  have HCL := Lib.hid hcl
  have HUO := Lib.hid hu
  have HGO := Lib.hid hg
  have HKO := Lib.hid hk
  obtain ⟨mm, hmm⟩ : ∃ mm, choM c x u g = mm := ⟨_, rfl⟩
  rw [hmm]
  have HMM := Lib.hid hmm
  clear h hv hcb hcl hk hu hg hmm
  go_enter Try.func43, Try.ntmps43
  go_upto_region 1 with (fail)
  rw [← hV]
  clear hV
  have yu := (HUO.out.on S0.out.be).cell
  have yg := (HGO.out.on S0.out.be).cell
  go_wp2_with (fail)
  have hcu := maybe_calls u V
  cases hu : idB u
  case false =>
    rw [hu] at hcu
    have HN : Hid (mm = 622) := Lib.hid (by rw [← HMM.out]; unfold choM; rw [hu]; rfl)
    clear hu HMM
    refine hcu.mono ?_
    rintro e w1 ⟨rfl, rfl⟩
    go_wp2_with (fail)
    refine (need_no 622 w1).mono ?_
    rintro e w8 ⟨rfl, rfl⟩
    go_wp2_with (fail)
    exact ⟨rfl, S0.out.be, .inr ⟨by rw [HN.out]; decide, by rw [HN.out]⟩⟩
  case true =>
  rw [hu] at hcu
  refine hcu.mono ?_
  rintro e w1 ⟨rfl, rfl⟩
  clear hcu
  go_wp2_with (fail)
  have hcg := maybe_calls g w1
  cases hg : idB g
  case false =>
    rw [hg] at hcg
    have HN : Hid (mm = 622) := Lib.hid (by rw [← HMM.out]; unfold choM; rw [hg, Bool.and_false]; rfl)
    clear hg HMM
    refine hcg.mono ?_
    rintro e w2 ⟨rfl, rfl⟩
    go_wp2_with (fail)
    refine (need_no 622 w2).mono ?_
    rintro e w8 ⟨rfl, rfl⟩
    go_wp2_with (fail)
    exact ⟨rfl, S0.out.be, .inr ⟨by rw [HN.out]; decide, by rw [HN.out]⟩⟩
  case true =>
  rw [hg] at hcg
  refine hcg.mono ?_
  rintro e w2 ⟨rfl, rfl⟩
  clear hcg
  go_wp2_with (fail)
  refine (need_ok 622 w2).mono ?_
  rintro e w3 ⟨rfl, rfl⟩
  have HMM1 : Hid ((if ownsB c x then (if leaveB c x u g then (0 : Int) else 601) else 601) = mm) := Lib.hid (by rw [← HMM.out]; unfold choM; rw [hu, hg]; rfl)
  have HIU := Lib.hid hu
  have HIG := Lib.hid hg
  clear hu hg HMM
  go_wp2_with (first
  | (refine wpList_load_part rfl 25 (.tmp 3) rfl bc 0 rfl (Cr.c c A n).toList _ (HCB.out.on S0.out.be).all Try.underlying25 rfl cred_size (Cr.v c A n) rfl ?_)
  | (refine wpList_load_part rfl 31 (.tmp 5) rfl w.heap.size 0 rfl (At.c x p).toList _ (S0.out.bt).bt0 Try.underlying31 rfl attr_size (At.v x p) rfl ?_))
  refine (owns_calls c A n x p w3).mono ?_
  rintro e w4 ⟨rfl, hb⟩
  have S1 := Lib.hid (S0.out.on hb)
  clear hb S0 yu yg
  cases hw : ownsB c x
  case false =>
    have HN : Hid (mm = 601) := Lib.hid (by rw [← HMM1.out, hw]; rfl)
    clear hw HMM1
    go_wp2_with (fail)
    refine (need_no 601 w4).mono ?_
    rintro e w8 ⟨rfl, rfl⟩
    go_wp2_with (fail)
    exact ⟨rfl, S1.out.be, .inr ⟨by rw [HN.out]; decide, by rw [HN.out]⟩⟩
  case true =>
  have HMM2 : Hid ((if leaveB c x u g then (0 : Int) else 601) = mm) := Lib.hid (by rw [← HMM1.out, hw]; rfl)
  clear hw HMM1
  go_wp2_with (fail)
  refine (need_ok 601 w4).mono ?_
  rintro e w5 ⟨rfl, rfl⟩
  go_upto_region 3 with (fail)
  have k0 := cell_regrown (show w5.cell? ⟨bu, 0, none⟩ = some (.int .i64 u) from (HUO.out.on S1.out.be).cell)
  have k1 := cell_regrown (show w5.cell? ⟨bg, 0, none⟩ = some (.int .i64 g) from (HGO.out.on S1.out.be).cell)
  have k2 := cell_regrown (show w5.cell? ⟨w.heap.size, 1, none⟩ = some (.int .u16 (x.ui : Nat)) from S1.out.bt.c1)
  have k3 := cell_regrown (show w5.cell? ⟨w.heap.size, 2, none⟩ = some (.int .u16 (x.gi : Nat)) from S1.out.bt.c2)
  obtain ⟨U, hU⟩ : ∃ U, becN u x.ui = U := ⟨_, rfl⟩
  obtain ⟨G, hG⟩ : ∃ G, becN g x.gi = G := ⟨_, rfl⟩
  have HU := Lib.hid hU
  have HG := Lib.hid hG
  have cU : ∀ dq os, Calls Try.prog 45 #[.int .i64 u, .int .u16 (x.ui : Nat)] (grow (redrawn w5 dq) os) fun e w'' => e = .returned (.int .u16 (U : Nat)) ∧ ∃ p : Regrown, w'' = grow (redrawn w5 p.d) p.os := fun dq os => Calls.regrown_of ((hU ▸ become_calls u x.ui _ HIU.out).mono fun e w' h => ⟨h.1, by rw [h.2]; exact Below.refl _ _⟩)
  have cG : ∀ dq os, Calls Try.prog 45 #[.int .i64 g, .int .u16 (x.gi : Nat)] (grow (redrawn w5 dq) os) fun e w'' => e = .returned (.int .u16 (G : Nat)) ∧ ∃ p : Regrown, w'' = grow (redrawn w5 p.d) p.os := fun dq os => Calls.regrown_of ((hG ▸ become_calls g x.gi _ HIG.out).mono fun e w' h => ⟨h.1, by rw [h.2]; exact Below.refl _ _⟩)
  clear hU hG
  refine wp_region_quiet_below (by kernel_rfl) (by kernel_rfl) ?_
  repeat (first | go_big_quiet_step (first | exact cU _ _ | exact cG _ _) | quiet_step (first | exact cU _ _ | exact cG _ _))
  refine wpQuiet_nil ?_
  intro _ hw'
  obtain ⟨⟨dq, osq⟩, hw''⟩ := hw'
  subst hw''
  obtain ⟨W, hW⟩ : ∃ W, W = grow (redrawn w5 dq) osq := ⟨_, rfl⟩
  have S2 : Hid (Wk w W w.heap.size x p (w.heap.size + 1) zAt) := Lib.hid (by rw [hW]; exact S1.out.on (below_regrown w5 dq osq))
  rw [← hW]
  clear hW S1 k0 k1 k2 k3 cU cG
  obtain ⟨z, hz⟩ : ∃ z, c.ui = z := ⟨_, rfl⟩
  have HLV : Hid (leaveB c x u g = (decide (z = 0) || (decide (U = x.ui) && (decide (G = x.gi) || inB c G)))) := Lib.hid (by unfold leaveB; rw [HU.out, HG.out, hz])
  have yc0 := (HCB.out.on S2.out.be).c0
  rw [hz] at yc0
  have y1 := S2.out.bt.c1
  have y2 := S2.out.bt.c2
  clear hz
  by_cases h0 : z = 0
  case pos =>
    have d0 : ((z : Int) == 0) = true := by rw [h0]; rfl
    have HN : Hid (mm = 0) := Lib.hid (by rw [← HMM2.out, HLV.out, decide_eq_true h0]; rfl)
    clear h0 HMM2 HLV
    go_wp2_with (fail)
    clear d0 yc0 y1 y2
    refine (need_ok 601 W).mono ?_
    rintro e w6 ⟨rfl, rfl⟩
    obtain ⟨Y1, hY1⟩ : ∃ Y, Y = World.setRow w6 w.heap.size (At.c (withId x U x.gi) p) := ⟨_, rfl⟩
    have T1 := Lib.hid (S2.out.put (S2.out.ow.id U x.gi))
    rw [← hY1] at T1
    have HY1 := Lib.hid hY1
    obtain ⟨Y2, hY2⟩ : ∃ Y, Y = World.setRow Y1 w.heap.size (At.c (withId x U G) p) := ⟨_, rfl⟩
    have T2 := Lib.hid (T1.out.put (y := withId x U G) (q := p) (T1.out.ow.id U G))
    rw [← hY2] at T2
    have HY2 := Lib.hid hY2
    clear hY1 hY2
    go_upto_region 6 with (first
      | (refine wpList_store_part rfl 22 (.tmp 51) (.tmp 49) rfl rfl w.heap.size 1 [.int .u16 (U : Nat)] rfl rfl 31 _ S2.out.bt u16_size (Nat.le_of_ble_eq_true rfl) (one_of rfl) (At.c (withId x U x.gi) p) rfl ?_; rw [← HY1.out])
      | (refine wpList_store_part rfl 22 (.tmp 52) (.tmp 50) rfl rfl w.heap.size 2 [.int .u16 (G : Nat)] rfl rfl 31 _ T1.out.bt u16_size (Nat.le_of_ble_eq_true rfl) (one_of rfl) (At.c (withId x U G) p) rfl ?_; rw [← HY2.out]))
    clear HY1 HY2 T1 S2
    have yk := (HKO.out.on T2.out.be).cell
    by_cases hk : k = 1
    case pos =>
      have dk : ((k : Int) == 1) = true := by rw [hk]; rfl
      have HY : Hid (choX x k u g = goesA (withId x U G)) := Lib.hid (by unfold choX; rw [if_pos hk, HU.out, HG.out])
      have HNB : Hid (Nb (withId x U G).ac) := Lib.hid (nb_may (amay_parts HM.out).2.1)
      have HB8 : Hid ((withId x U G).bi < 256) := Lib.hid (by have := may8 HM.out; show x.bi < 256; omega)
      clear hk
      generalize withId x U G = y at *
      go_wp2_with (refine wpList_load_part rfl 31 (.tmp 5) rfl w.heap.size 0 rfl (At.c y p).toList _ (T2.out.bt).bt0 Try.underlying31 rfl attr_size (At.v y p) rfl ?_)
      refine (cleared_calls y p Y2 T2.out.ow HNB.out HB8.out).mono ?_
      rintro e w7 ⟨rfl, how, hb⟩
      have S7 := Lib.hid (T2.out.on hb)
      have HO := Lib.hid how
      clear hb how T2 yk dk
      obtain ⟨C, hC⟩ : ∃ C, C = At.c (goesA y) p := ⟨_, rfl⟩
      have hone : C.all (·.oneCell') = true := by rw [hC]; exact c_one _ _
      have hsz : (Try.prog.info? 31).map (·.size) = some C.size := by rw [hC]; exact c_size _ _
      have hold : (zAt : Array Value).size = C.size := by rw [hC]; rfl
      obtain ⟨Z, hZ⟩ : ∃ Z, Z = World.setRow w7 (w.heap.size + 1) C := ⟨_, rfl⟩
      have HR := Lib.hid (S7.out.res C)
      have HOR := Lib.hid ((HO.out).turn S7.out.rb C)
      rw [← hZ] at HR HOR
      have HC := Lib.hid hC
      have HZZ := Lib.hid hZ
      rw [show At.v (goesA y) p = .agg C by rw [hC]]
      clear hC hZ
      go_wp2_with (refine wpList_store_rowTo rfl 31 (.tmp 6) (.tmp 56) rfl rfl (w.heap.size + 1) C rfl rfl 31 _ S7.out.rb hsz hold hone ?_; rw [← HZZ.out])
      exact bodyPost_ret (results_cell_row rfl _ _ (w.heap.size + 1) 31 _ (0, 0) _ rfl HR.out.rb Try.underlying31 rfl hsz) rfl ⟨HR.out.be, .inl ⟨HN.out, p, by rw [HC.out, HY.out], by rw [HY.out]; exact HOR.out⟩⟩
    case neg =>
      have dk : ((k : Int) == 1) = false := by rw [beq_eq_false_iff_ne]; omega
      have HY : Hid (choX x k u g = withId x U G) := Lib.hid (by unfold choX; rw [if_neg hk, HU.out, HG.out])
      clear hk
      generalize withId x U G = y at *
      go_upto_region 8 with (fail)
      clear yk dk
      obtain ⟨C, hC⟩ : ∃ C, C = At.c (y) p := ⟨_, rfl⟩
      have hone : C.all (·.oneCell') = true := by rw [hC]; exact c_one _ _
      have hsz : (Try.prog.info? 31).map (·.size) = some C.size := by rw [hC]; exact c_size _ _
      have hold : (zAt : Array Value).size = C.size := by rw [hC]; rfl
      have HBT : Hid ((World.heap Y2)[w.heap.size]? = some (.cells C 31 (0, 0))) := Lib.hid (by rw [hC]; exact T2.out.bt)
      obtain ⟨Z, hZ⟩ : ∃ Z, Z = World.setRow Y2 (w.heap.size + 1) C := ⟨_, rfl⟩
      have HR := Lib.hid (T2.out.res C)
      rw [← hZ] at HR
      have HC := Lib.hid hC
      have HZZ := Lib.hid hZ
      clear hC hZ
      go_wp2_with (first
        | (refine wpList_load_row rfl 31 (.tmp 5) rfl w.heap.size rfl 31 C (0, 0) _ HBT.out Try.underlying31 rfl hsz ?_)
        | (refine wpList_store_rowTo rfl 31 (.tmp 6) (.tmp 57) rfl rfl (w.heap.size + 1) C rfl rfl 31 _ T2.out.rb hsz hold hone ?_; rw [← HZZ.out]))
      exact bodyPost_ret (results_cell_row rfl _ _ (w.heap.size + 1) 31 _ (0, 0) _ rfl HR.out.rb Try.underlying31 rfl hsz) rfl ⟨HR.out.be, .inl ⟨HN.out, p, by rw [HC.out, HY.out], by rw [HY.out]; exact HR.out.ow⟩⟩
  case neg =>
  have d0 : ((z : Int) == 0) = false := by rw [beq_eq_false_iff_ne]; omega
  have HL1 : Hid (leaveB c x u g = (decide (U = x.ui) && (decide (G = x.gi) || inB c G))) := Lib.hid (by rw [HLV.out, decide_eq_false h0]; rfl)
  clear h0 HLV
  by_cases h1 : U = x.ui
  case neg =>
    have d1 : ((U : Int) == (x.ui : Int)) = false := by rw [beq_eq_false_iff_ne]; omega
    have HN : Hid (mm = 601) := Lib.hid (by rw [← HMM2.out, HL1.out, decide_eq_false h1]; rfl)
    clear h1 HMM2 HL1
    go_wp2_with (fail)
    refine (need_no 601 W).mono ?_
    rintro e w8 ⟨rfl, rfl⟩
    go_wp2_with (fail)
    exact ⟨rfl, S2.out.be, .inr ⟨by rw [HN.out]; decide, by rw [HN.out]⟩⟩
  case pos =>
  have d1 : ((U : Int) == (x.ui : Int)) = true := by rw [beq_iff_eq]; omega
  have HL2 : Hid (leaveB c x u g = (decide (G = x.gi) || inB c G)) := Lib.hid (by rw [HL1.out, decide_eq_true h1]; rfl)
  clear h1 HL1
  by_cases h2 : G = x.gi
  case pos =>
    have d2 : ((G : Int) == (x.gi : Int)) = true := by rw [beq_iff_eq]; omega
    have HN : Hid (mm = 0) := Lib.hid (by rw [← HMM2.out, HL2.out, decide_eq_true h2]; rfl)
    clear h2 HMM2 HL2
    go_wp2_with (fail)
    clear d0 d1 d2 yc0 y1 y2
    refine (need_ok 601 W).mono ?_
    rintro e w6 ⟨rfl, rfl⟩
    obtain ⟨Y1, hY1⟩ : ∃ Y, Y = World.setRow w6 w.heap.size (At.c (withId x U x.gi) p) := ⟨_, rfl⟩
    have T1 := Lib.hid (S2.out.put (S2.out.ow.id U x.gi))
    rw [← hY1] at T1
    have HY1 := Lib.hid hY1
    obtain ⟨Y2, hY2⟩ : ∃ Y, Y = World.setRow Y1 w.heap.size (At.c (withId x U G) p) := ⟨_, rfl⟩
    have T2 := Lib.hid (T1.out.put (y := withId x U G) (q := p) (T1.out.ow.id U G))
    rw [← hY2] at T2
    have HY2 := Lib.hid hY2
    clear hY1 hY2
    go_upto_region 6 with (first
      | (refine wpList_store_part rfl 22 (.tmp 51) (.tmp 49) rfl rfl w.heap.size 1 [.int .u16 (U : Nat)] rfl rfl 31 _ S2.out.bt u16_size (Nat.le_of_ble_eq_true rfl) (one_of rfl) (At.c (withId x U x.gi) p) rfl ?_; rw [← HY1.out])
      | (refine wpList_store_part rfl 22 (.tmp 52) (.tmp 50) rfl rfl w.heap.size 2 [.int .u16 (G : Nat)] rfl rfl 31 _ T1.out.bt u16_size (Nat.le_of_ble_eq_true rfl) (one_of rfl) (At.c (withId x U G) p) rfl ?_; rw [← HY2.out]))
    clear HY1 HY2 T1 S2
    have yk := (HKO.out.on T2.out.be).cell
    by_cases hk : k = 1
    case pos =>
      have dk : ((k : Int) == 1) = true := by rw [hk]; rfl
      have HY : Hid (choX x k u g = goesA (withId x U G)) := Lib.hid (by unfold choX; rw [if_pos hk, HU.out, HG.out])
      have HNB : Hid (Nb (withId x U G).ac) := Lib.hid (nb_may (amay_parts HM.out).2.1)
      have HB8 : Hid ((withId x U G).bi < 256) := Lib.hid (by have := may8 HM.out; show x.bi < 256; omega)
      clear hk
      generalize withId x U G = y at *
      go_wp2_with (refine wpList_load_part rfl 31 (.tmp 5) rfl w.heap.size 0 rfl (At.c y p).toList _ (T2.out.bt).bt0 Try.underlying31 rfl attr_size (At.v y p) rfl ?_)
      refine (cleared_calls y p Y2 T2.out.ow HNB.out HB8.out).mono ?_
      rintro e w7 ⟨rfl, how, hb⟩
      have S7 := Lib.hid (T2.out.on hb)
      have HO := Lib.hid how
      clear hb how T2 yk dk
      obtain ⟨C, hC⟩ : ∃ C, C = At.c (goesA y) p := ⟨_, rfl⟩
      have hone : C.all (·.oneCell') = true := by rw [hC]; exact c_one _ _
      have hsz : (Try.prog.info? 31).map (·.size) = some C.size := by rw [hC]; exact c_size _ _
      have hold : (zAt : Array Value).size = C.size := by rw [hC]; rfl
      obtain ⟨Z, hZ⟩ : ∃ Z, Z = World.setRow w7 (w.heap.size + 1) C := ⟨_, rfl⟩
      have HR := Lib.hid (S7.out.res C)
      have HOR := Lib.hid ((HO.out).turn S7.out.rb C)
      rw [← hZ] at HR HOR
      have HC := Lib.hid hC
      have HZZ := Lib.hid hZ
      rw [show At.v (goesA y) p = .agg C by rw [hC]]
      clear hC hZ
      go_wp2_with (refine wpList_store_rowTo rfl 31 (.tmp 6) (.tmp 56) rfl rfl (w.heap.size + 1) C rfl rfl 31 _ S7.out.rb hsz hold hone ?_; rw [← HZZ.out])
      exact bodyPost_ret (results_cell_row rfl _ _ (w.heap.size + 1) 31 _ (0, 0) _ rfl HR.out.rb Try.underlying31 rfl hsz) rfl ⟨HR.out.be, .inl ⟨HN.out, p, by rw [HC.out, HY.out], by rw [HY.out]; exact HOR.out⟩⟩
    case neg =>
      have dk : ((k : Int) == 1) = false := by rw [beq_eq_false_iff_ne]; omega
      have HY : Hid (choX x k u g = withId x U G) := Lib.hid (by unfold choX; rw [if_neg hk, HU.out, HG.out])
      clear hk
      generalize withId x U G = y at *
      go_upto_region 8 with (fail)
      clear yk dk
      obtain ⟨C, hC⟩ : ∃ C, C = At.c (y) p := ⟨_, rfl⟩
      have hone : C.all (·.oneCell') = true := by rw [hC]; exact c_one _ _
      have hsz : (Try.prog.info? 31).map (·.size) = some C.size := by rw [hC]; exact c_size _ _
      have hold : (zAt : Array Value).size = C.size := by rw [hC]; rfl
      have HBT : Hid ((World.heap Y2)[w.heap.size]? = some (.cells C 31 (0, 0))) := Lib.hid (by rw [hC]; exact T2.out.bt)
      obtain ⟨Z, hZ⟩ : ∃ Z, Z = World.setRow Y2 (w.heap.size + 1) C := ⟨_, rfl⟩
      have HR := Lib.hid (T2.out.res C)
      rw [← hZ] at HR
      have HC := Lib.hid hC
      have HZZ := Lib.hid hZ
      clear hC hZ
      go_wp2_with (first
        | (refine wpList_load_row rfl 31 (.tmp 5) rfl w.heap.size rfl 31 C (0, 0) _ HBT.out Try.underlying31 rfl hsz ?_)
        | (refine wpList_store_rowTo rfl 31 (.tmp 6) (.tmp 57) rfl rfl (w.heap.size + 1) C rfl rfl 31 _ T2.out.rb hsz hold hone ?_; rw [← HZZ.out]))
      exact bodyPost_ret (results_cell_row rfl _ _ (w.heap.size + 1) 31 _ (0, 0) _ rfl HR.out.rb Try.underlying31 rfl hsz) rfl ⟨HR.out.be, .inl ⟨HN.out, p, by rw [HC.out, HY.out], by rw [HY.out]; exact HR.out.ow⟩⟩
  case neg =>
  have d2 : ((G : Int) == (x.gi : Int)) = false := by rw [beq_eq_false_iff_ne]; omega
  have HL3 : Hid (leaveB c x u g = inB c G) := Lib.hid (by rw [HL2.out, decide_eq_false h2]; rfl)
  clear h2 HL2
  go_wp2_with (refine wpList_load_part rfl 25 (.tmp 3) rfl bc 0 rfl (Cr.c c A n).toList _ (HCB.out.on S2.out.be).all Try.underlying25 rfl cred_size (Cr.v c A n) rfl ?_)
  refine (in_calls c A n G W (HCL.out.below S2.out.be)).mono ?_
  rintro e w9 ⟨rfl, hb⟩
  have S3 := Lib.hid (S2.out.on hb)
  clear hb S2 yc0 y1 y2
  cases hi : inB c G
  case false =>
    have HN : Hid (mm = 601) := Lib.hid (by rw [← HMM2.out, HL3.out, hi]; rfl)
    clear hi HMM2 HL3
    go_wp2_with (fail)
    refine (need_no 601 w9).mono ?_
    rintro e w8 ⟨rfl, rfl⟩
    go_wp2_with (fail)
    exact ⟨rfl, S3.out.be, .inr ⟨by rw [HN.out]; decide, by rw [HN.out]⟩⟩
  case true =>
    have HN : Hid (mm = 0) := Lib.hid (by rw [← HMM2.out, HL3.out, hi]; rfl)
    clear hi HMM2 HL3
    go_wp2_with (fail)
    clear d0 d1 d2
    refine (need_ok 601 w9).mono ?_
    rintro e w6 ⟨rfl, rfl⟩
    obtain ⟨Y1, hY1⟩ : ∃ Y, Y = World.setRow w6 w.heap.size (At.c (withId x U x.gi) p) := ⟨_, rfl⟩
    have T1 := Lib.hid (S3.out.put (S3.out.ow.id U x.gi))
    rw [← hY1] at T1
    have HY1 := Lib.hid hY1
    obtain ⟨Y2, hY2⟩ : ∃ Y, Y = World.setRow Y1 w.heap.size (At.c (withId x U G) p) := ⟨_, rfl⟩
    have T2 := Lib.hid (T1.out.put (y := withId x U G) (q := p) (T1.out.ow.id U G))
    rw [← hY2] at T2
    have HY2 := Lib.hid hY2
    clear hY1 hY2
    go_upto_region 6 with (first
      | (refine wpList_store_part rfl 22 (.tmp 51) (.tmp 49) rfl rfl w.heap.size 1 [.int .u16 (U : Nat)] rfl rfl 31 _ S3.out.bt u16_size (Nat.le_of_ble_eq_true rfl) (one_of rfl) (At.c (withId x U x.gi) p) rfl ?_; rw [← HY1.out])
      | (refine wpList_store_part rfl 22 (.tmp 52) (.tmp 50) rfl rfl w.heap.size 2 [.int .u16 (G : Nat)] rfl rfl 31 _ T1.out.bt u16_size (Nat.le_of_ble_eq_true rfl) (one_of rfl) (At.c (withId x U G) p) rfl ?_; rw [← HY2.out]))
    clear HY1 HY2 T1 S3
    have yk := (HKO.out.on T2.out.be).cell
    by_cases hk : k = 1
    case pos =>
      have dk : ((k : Int) == 1) = true := by rw [hk]; rfl
      have HY : Hid (choX x k u g = goesA (withId x U G)) := Lib.hid (by unfold choX; rw [if_pos hk, HU.out, HG.out])
      have HNB : Hid (Nb (withId x U G).ac) := Lib.hid (nb_may (amay_parts HM.out).2.1)
      have HB8 : Hid ((withId x U G).bi < 256) := Lib.hid (by have := may8 HM.out; show x.bi < 256; omega)
      clear hk
      generalize withId x U G = y at *
      go_wp2_with (refine wpList_load_part rfl 31 (.tmp 5) rfl w.heap.size 0 rfl (At.c y p).toList _ (T2.out.bt).bt0 Try.underlying31 rfl attr_size (At.v y p) rfl ?_)
      refine (cleared_calls y p Y2 T2.out.ow HNB.out HB8.out).mono ?_
      rintro e w7 ⟨rfl, how, hb⟩
      have S7 := Lib.hid (T2.out.on hb)
      have HO := Lib.hid how
      clear hb how T2 yk dk
      obtain ⟨C, hC⟩ : ∃ C, C = At.c (goesA y) p := ⟨_, rfl⟩
      have hone : C.all (·.oneCell') = true := by rw [hC]; exact c_one _ _
      have hsz : (Try.prog.info? 31).map (·.size) = some C.size := by rw [hC]; exact c_size _ _
      have hold : (zAt : Array Value).size = C.size := by rw [hC]; rfl
      obtain ⟨Z, hZ⟩ : ∃ Z, Z = World.setRow w7 (w.heap.size + 1) C := ⟨_, rfl⟩
      have HR := Lib.hid (S7.out.res C)
      have HOR := Lib.hid ((HO.out).turn S7.out.rb C)
      rw [← hZ] at HR HOR
      have HC := Lib.hid hC
      have HZZ := Lib.hid hZ
      rw [show At.v (goesA y) p = .agg C by rw [hC]]
      clear hC hZ
      go_wp2_with (refine wpList_store_rowTo rfl 31 (.tmp 6) (.tmp 56) rfl rfl (w.heap.size + 1) C rfl rfl 31 _ S7.out.rb hsz hold hone ?_; rw [← HZZ.out])
      exact bodyPost_ret (results_cell_row rfl _ _ (w.heap.size + 1) 31 _ (0, 0) _ rfl HR.out.rb Try.underlying31 rfl hsz) rfl ⟨HR.out.be, .inl ⟨HN.out, p, by rw [HC.out, HY.out], by rw [HY.out]; exact HOR.out⟩⟩
    case neg =>
      have dk : ((k : Int) == 1) = false := by rw [beq_eq_false_iff_ne]; omega
      have HY : Hid (choX x k u g = withId x U G) := Lib.hid (by unfold choX; rw [if_neg hk, HU.out, HG.out])
      clear hk
      generalize withId x U G = y at *
      go_upto_region 8 with (fail)
      clear yk dk
      obtain ⟨C, hC⟩ : ∃ C, C = At.c (y) p := ⟨_, rfl⟩
      have hone : C.all (·.oneCell') = true := by rw [hC]; exact c_one _ _
      have hsz : (Try.prog.info? 31).map (·.size) = some C.size := by rw [hC]; exact c_size _ _
      have hold : (zAt : Array Value).size = C.size := by rw [hC]; rfl
      have HBT : Hid ((World.heap Y2)[w.heap.size]? = some (.cells C 31 (0, 0))) := Lib.hid (by rw [hC]; exact T2.out.bt)
      obtain ⟨Z, hZ⟩ : ∃ Z, Z = World.setRow Y2 (w.heap.size + 1) C := ⟨_, rfl⟩
      have HR := Lib.hid (T2.out.res C)
      rw [← hZ] at HR
      have HC := Lib.hid hC
      have HZZ := Lib.hid hZ
      clear hC hZ
      go_wp2_with (first
        | (refine wpList_load_row rfl 31 (.tmp 5) rfl w.heap.size rfl 31 C (0, 0) _ HBT.out Try.underlying31 rfl hsz ?_)
        | (refine wpList_store_rowTo rfl 31 (.tmp 6) (.tmp 57) rfl rfl (w.heap.size + 1) C rfl rfl 31 _ T2.out.rb hsz hold hone ?_; rw [← HZZ.out]))
      exact bodyPost_ret (results_cell_row rfl _ _ (w.heap.size + 1) 31 _ (0, 0) _ rfl HR.out.rb Try.underlying31 rfl hsz) rfl ⟨HR.out.be, .inl ⟨HN.out, p, by rw [HC.out, HY.out], by rw [HY.out]; exact HR.out.ow⟩⟩
end Go.Proofs.Ytdioafoikcfhhaa
