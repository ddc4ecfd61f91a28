/- The program's SetAcl. -/
import Derived.Test.YtdioafoikcfhhaaOk
set_option linter.unusedSimpArgs false
set_option linter.unusedVariables false
set_option linter.unusedSimpArgs false
set_option linter.unusedVariables false
namespace Go.Proofs.Ytdioafoikcfhhaa
open Go.RowKit
def aclM (c : Cr) (x : At) (k wh : Nat) (l : Ac) : Int :=
  if decide (1 ≤ wh) && decide (wh ≤ 3) then (if ownsB c x then (if decide (wh = 1) || decide (k = 2) then (if decide (wh = 3) || mayB l then 0 else 622) else 613) else 601) else 622
/-- The tests ahead of what is done: which number it is, whom it is, which kind, which list. -/
theorem aclM_wh {c : Cr} {x : At} {k wh : Nat} {l : Ac} (h : ¬ (1 ≤ wh ∧ wh ≤ 3)) : aclM c x k wh l = 622 := by
  unfold aclM
  rw [if_neg]
  rw [Bool.and_eq_true, decide_eq_true_eq, decide_eq_true_eq]
  exact h
theorem aclM_in {c : Cr} {x : At} {k wh : Nat} {l : Ac} (h : 1 ≤ wh ∧ wh ≤ 3) : aclM c x k wh l = (if ownsB c x then (if decide (wh = 1) || decide (k = 2) then (if decide (wh = 3) || mayB l then 0 else 622) else 613) else 601) := by
  unfold aclM
  rw [if_pos]
  rw [Bool.and_eq_true, decide_eq_true_eq, decide_eq_true_eq]
  exact h
set_option maxRecDepth 100000 in
set_option maxHeartbeats 8000000 in
theorem acl1_calls (c : Cr) (A : Option Addr) (n : Nat) (x : At) (p : ALie) (bc bw bl bk k : Nat) (l : Ac) (pl : Lie) (w : World) (hv : validB c x = true) (h : AOw w x p) (hcb : Cb w bc c A n) (hcl : CLies w c A)
    (hw : One w bw (.int .u8 (1 : Nat)) 5) (hl : Ab w bl l pl) (hll : Lies w l pl) (hls : Sm l) (hk : One w bk (.int .u8 (k : Nat)) 5) :
    Calls Try.prog 53 #[x.v p, .pointer (some ⟨bw, 0, none⟩), .pointer (some ⟨bc, 0, none⟩), .pointer (some ⟨bk, 0, none⟩), .pointer (some ⟨bl, 0, none⟩)] w fun e w' => Ends w (aclM c x k 1 l) (aclX c x k 1 l) e w' := by
  obtain ⟨V, hV⟩ : ∃ V, V = (w.alloc (.cells (x.c p) 31)).alloc (.cells zAt 31) := ⟨_, rfl⟩
  have S0 : Hid (Wk w V w.heap.size x p (w.heap.size + 1) zAt) := Lib.hid (by rw [hV]; exact Wk.start w h)
  have HM := Lib.hid (valid_parts hv).2
  have HCB := Lib.hid hcb
  have HCL := Lib.hid hcl
  have HWO := Lib.hid hw
  have HLO := Lib.hid hl
  have HLL := Lib.hid hll
  have HLS := Lib.hid hls
  have HKO := Lib.hid hk
  obtain ⟨mm, hmm⟩ : ∃ mm, aclM c x k 1 l = mm := ⟨_, rfl⟩
  rw [hmm]
  have HMM := Lib.hid hmm
  clear h hv hcb hcl hk hw hl hll hls hmm
  go_enter Try.func53, Try.ntmps53
  go_upto_region 1 with (fail)
  rw [← hV]
  clear hV
  have yw := (HWO.out.on S0.out.be).cell
  go_wp2_with (fail)
  refine (need_ok 622 V).mono ?_
  rintro e w1 ⟨rfl, rfl⟩
  have HMM1 : Hid ((if ownsB c x then (if mayB l then (0 : Int) else 622) else 601) = mm) := Lib.hid (by rw [← HMM.out, aclM_in (by omega)]; rfl)
  clear HMM
  go_wp2_with (first
  | (refine wpList_load_part rfl 25 (.tmp 2) rfl bc 0 rfl (Cr.c c A n).toList _ (HCB.out.on S0.out.be).all Try.underlying25 rfl cred_size (Cr.v c A n) rfl ?_)
  | (refine wpList_load_part rfl 31 (.tmp 5) rfl w.heap.size 0 rfl (At.c x p).toList _ (S0.out.bt).bt0 Try.underlying31 rfl attr_size (At.v x p) rfl ?_))
  refine (owns_calls c A n x p w1).mono ?_
  rintro e w2 ⟨rfl, hb⟩
  have S1 := Lib.hid (S0.out.on hb)
  clear hb S0 yw
  have yw := (HWO.out.on S1.out.be).cell
  have yk := (HKO.out.on S1.out.be).cell
  cases ho : ownsB c x
  case false =>
    have HN : Hid (mm = 601) := Lib.hid (by rw [← HMM1.out, ho]; rfl)
    clear ho HMM1
    go_wp2_with (fail)
    refine (need_no 601 w2).mono ?_
    rintro e w8 ⟨rfl, rfl⟩
    go_wp2_with (fail)
    exact ⟨rfl, S1.out.be, .inr ⟨by rw [HN.out]; decide, by rw [HN.out]⟩⟩
  case true =>
  go_wp2_with (fail)
  refine (need_ok 601 w2).mono ?_
  rintro e w3 ⟨rfl, rfl⟩
  have HMM2 : Hid ((if mayB l then (0 : Int) else 622) = mm) := Lib.hid (by rw [← HMM1.out, ho]; rfl)
  clear ho HMM1
  go_wp2_with (fail)
  refine (need_ok 613 w3).mono ?_
  rintro e w4 ⟨rfl, rfl⟩
  go_wp2_with (refine wpList_load_part rfl 28 (.tmp 4) rfl bl 0 rfl (Ac.c l pl).toList _ ((HLO.out.on S1.out.be).part) Try.underlying28 rfl acl_size (Ac.v l pl) rfl ?_)
  refine (check_calls l pl w4 (HLL.out.below S1.out.be) HLS.out).mono ?_
  rintro e w5 ⟨rfl, hb⟩
  have S5 := Lib.hid (S1.out.on hb)
  clear hb S1 yw yk
  have yw := (HWO.out.on S5.out.be).cell
  cases hm : mayB l
  case false =>
    have HN : Hid (mm = 622) := Lib.hid (by rw [← HMM2.out, hm]; rfl)
    clear hm HMM2
    rw [if_neg (show ¬ (false = true) by decide)]
    go_wp2_with (fail)
    refine (need_no 622 w5).mono ?_
    rintro e w8 ⟨rfl, rfl⟩
    go_wp2_with (fail)
    exact ⟨rfl, S5.out.be, .inr ⟨by rw [HN.out]; decide, by rw [HN.out]⟩⟩
  case true =>
  have HN : Hid (mm = 0) := Lib.hid (by rw [← HMM2.out, hm]; rfl)
  clear hm HMM2
  rw [if_pos rfl]
  go_wp2_with (fail)
  refine (need_ok 622 w5).mono ?_
  rintro e w6 ⟨rfl, rfl⟩
  go_upto_region 7 with (fail)
  go_wp2_with (refine wpList_load_part rfl 28 (.tmp 4) rfl bl 0 rfl (Ac.c l pl).toList _ ((HLO.out.on S5.out.be).part) Try.underlying28 rfl acl_size (Ac.v l pl) rfl ?_)
  refine (copy_calls l pl w6 (HLL.out.below S5.out.be) HLS.out).mono ?_
  rintro e w7 ⟨q, rfl, hC, hb⟩
  have S7 := Lib.hid (S5.out.on hb)
  have HL := Lib.hid (LiesO.of hC)
  clear hb hC S5
  obtain ⟨U1, hU1⟩ : ∃ Zz, Zz = World.setRow w7 w.heap.size (At.c (withAc x l) ⟨q, p.q, p.X, p.n⟩) := ⟨_, rfl⟩
  have S8 := Lib.hid (S7.out.put (S7.out.ow.acc HL.out))
  rw [← hU1] at S8
  go_upto_region 8 with (refine wpList_store_part rfl 28 (.tmp 42) (.tmp 41) rfl rfl w.heap.size 3 (Ac.c l q).toList rfl rfl 31 _ S7.out.bt acl_size (Nat.le_of_ble_eq_true rfl) (acl_one _ _) (At.c (withAc x l) ⟨q, p.q, p.X, p.n⟩) rfl ?_; rw [← hU1])
  clear hU1 S7 HL
  have HY : Hid (aclX c x k 1 l = lostA c (withAc x l) k) := Lib.hid rfl
  have HYB : Hid ((withAc x l).bi < 256) := Lib.hid (by have := may8 HM.out; show x.bi < 256; omega)
  generalize withAc x l = y at *
  obtain ⟨p2, hp2⟩ : ∃ p2 : ALie, ⟨q, p.q, p.X, p.n⟩ = p2 := ⟨_, rfl⟩
  rw [hp2] at S8
  clear hp2
  have yk := (HKO.out.on S8.out.be).cell
  go_wp2_with (first
    | (refine wpList_load_part rfl 25 (.tmp 2) rfl bc 0 rfl (Cr.c c A n).toList _ (HCB.out.on S8.out.be).all Try.underlying25 rfl cred_size (Cr.v c A n) rfl ?_)
    | (refine wpList_load_part rfl 31 (.tmp 5) rfl w.heap.size 0 rfl (At.c y p2).toList _ (S8.out.bt).bt0 Try.underlying31 rfl attr_size (At.v y p2) rfl ?_))
  refine (sgid_calls c A n y p2 k U1 (HCL.out.below S8.out.be) S8.out.ow HYB.out).mono ?_
  rintro e w9 ⟨rfl, how, hb⟩
  have S9 := Lib.hid (S8.out.on hb)
  have HO := Lib.hid how
  clear hb how S8 yk
  obtain ⟨C, hC⟩ : ∃ C, C = At.c (lostA c y k) p2 := ⟨_, rfl⟩
  have hone : C.all (·.oneCell') = true := by rw [hC]; exact c_one _ _
  have hsz : (Try.prog.info? 31).map (·.size) = some C.size := by rw [hC]; exact c_size _ _
  have hold : (zAt : Array Value).size = C.size := by rw [hC]; rfl
  obtain ⟨Z, hZ⟩ : ∃ Z, Z = World.setRow w9 (w.heap.size + 1) C := ⟨_, rfl⟩
  have HR := Lib.hid (S9.out.res C)
  have HOR := Lib.hid ((HO.out).turn S9.out.rb C)
  rw [← hZ] at HR HOR
  have HC := Lib.hid hC
  have HZZ := Lib.hid hZ
  rw [show At.v (lostA c y k) p2 = .agg C by rw [hC]]
  clear hC hZ
  go_wp2_with (refine wpList_store_rowTo rfl 31 (.tmp 6) (.tmp 46) rfl rfl (w.heap.size + 1) C rfl rfl 31 _ S9.out.rb hsz hold hone ?_; rw [← HZZ.out])
  exact bodyPost_ret (results_cell_row rfl _ _ (w.heap.size + 1) 31 _ (0, 0) _ rfl HR.out.rb Try.underlying31 rfl hsz) rfl ⟨HR.out.be, .inl ⟨HN.out, p2, by rw [HC.out, HY.out], by rw [HY.out]; exact HOR.out⟩⟩
set_option maxRecDepth 100000 in
set_option maxHeartbeats 8000000 in
theorem acl2_calls (c : Cr) (A : Option Addr) (n : Nat) (x : At) (p : ALie) (bc bw bl bk k : Nat) (l : Ac) (pl : Lie) (w : World) (hv : validB c x = true) (h : AOw w x p) (hcb : Cb w bc c A n) (hcl : CLies w c A)
    (hw : One w bw (.int .u8 (2 : Nat)) 5) (hl : Ab w bl l pl) (hll : Lies w l pl) (hls : Sm l) (hk : One w bk (.int .u8 (k : Nat)) 5) :
    Calls Try.prog 53 #[x.v p, .pointer (some ⟨bw, 0, none⟩), .pointer (some ⟨bc, 0, none⟩), .pointer (some ⟨bk, 0, none⟩), .pointer (some ⟨bl, 0, none⟩)] w fun e w' => Ends w (aclM c x k 2 l) (aclX c x k 2 l) e w' := by
  obtain ⟨V, hV⟩ : ∃ V, V = (w.alloc (.cells (x.c p) 31)).alloc (.cells zAt 31) := ⟨_, rfl⟩
  have S0 : Hid (Wk w V w.heap.size x p (w.heap.size + 1) zAt) := Lib.hid (by rw [hV]; exact Wk.start w h)
  have HM := Lib.hid (valid_parts hv).2
  have HCB := Lib.hid hcb
  have HCL := Lib.hid hcl
  have HWO := Lib.hid hw
  have HLO := Lib.hid hl
  have HLL := Lib.hid hll
  have HLS := Lib.hid hls
  have HKO := Lib.hid hk
  obtain ⟨mm, hmm⟩ : ∃ mm, aclM c x k 2 l = mm := ⟨_, rfl⟩
  rw [hmm]
  have HMM := Lib.hid hmm
  clear h hv hcb hcl hk hw hl hll hls hmm
  go_enter Try.func53, Try.ntmps53
  go_upto_region 1 with (fail)
  rw [← hV]
  clear hV
  have yw := (HWO.out.on S0.out.be).cell
  go_wp2_with (fail)
  refine (need_ok 622 V).mono ?_
  rintro e w1 ⟨rfl, rfl⟩
  have HMM1 : Hid ((if ownsB c x then (if decide (k = 2) then (if mayB l then (0 : Int) else 622) else 613) else 601) = mm) := Lib.hid (by rw [← HMM.out, aclM_in (by omega)]; rfl)
  clear HMM
  go_wp2_with (first
  | (refine wpList_load_part rfl 25 (.tmp 2) rfl bc 0 rfl (Cr.c c A n).toList _ (HCB.out.on S0.out.be).all Try.underlying25 rfl cred_size (Cr.v c A n) rfl ?_)
  | (refine wpList_load_part rfl 31 (.tmp 5) rfl w.heap.size 0 rfl (At.c x p).toList _ (S0.out.bt).bt0 Try.underlying31 rfl attr_size (At.v x p) rfl ?_))
  refine (owns_calls c A n x p w1).mono ?_
  rintro e w2 ⟨rfl, hb⟩
  have S1 := Lib.hid (S0.out.on hb)
  clear hb S0 yw
  have yw := (HWO.out.on S1.out.be).cell
  have yk := (HKO.out.on S1.out.be).cell
  cases ho : ownsB c x
  case false =>
    have HN : Hid (mm = 601) := Lib.hid (by rw [← HMM1.out, ho]; rfl)
    clear ho HMM1
    go_wp2_with (fail)
    refine (need_no 601 w2).mono ?_
    rintro e w8 ⟨rfl, rfl⟩
    go_wp2_with (fail)
    exact ⟨rfl, S1.out.be, .inr ⟨by rw [HN.out]; decide, by rw [HN.out]⟩⟩
  case true =>
  go_wp2_with (fail)
  refine (need_ok 601 w2).mono ?_
  rintro e w3 ⟨rfl, rfl⟩
  by_cases h2 : k = 2
  case neg =>
    have d2 : ((k : Int) == 2) = false := by rw [beq_eq_false_iff_ne]; omega
    have HN : Hid (mm = 613) := Lib.hid (by rw [← HMM1.out, ho, decide_eq_false h2]; rfl)
    clear ho HMM1 h2
    go_wp2_with (fail)
    refine (need_no 613 w3).mono ?_
    rintro e w8 ⟨rfl, rfl⟩
    go_wp2_with (fail)
    exact ⟨rfl, S1.out.be, .inr ⟨by rw [HN.out]; decide, by rw [HN.out]⟩⟩
  case pos =>
  have d2 : ((k : Int) == 2) = true := by rw [h2]; rfl
  have HMM2 : Hid ((if mayB l then (0 : Int) else 622) = mm) := Lib.hid (by rw [← HMM1.out, ho, decide_eq_true h2]; rfl)
  clear ho HMM1 h2
  go_wp2_with (fail)
  refine (need_ok 613 w3).mono ?_
  rintro e w4 ⟨rfl, rfl⟩
  clear d2
  go_wp2_with (refine wpList_load_part rfl 28 (.tmp 4) rfl bl 0 rfl (Ac.c l pl).toList _ ((HLO.out.on S1.out.be).part) Try.underlying28 rfl acl_size (Ac.v l pl) rfl ?_)
  refine (check_calls l pl w4 (HLL.out.below S1.out.be) HLS.out).mono ?_
  rintro e w5 ⟨rfl, hb⟩
  have S5 := Lib.hid (S1.out.on hb)
  clear hb S1 yw yk
  have yw := (HWO.out.on S5.out.be).cell
  cases hm : mayB l
  case false =>
    have HN : Hid (mm = 622) := Lib.hid (by rw [← HMM2.out, hm]; rfl)
    clear hm HMM2
    rw [if_neg (show ¬ (false = true) by decide)]
    go_wp2_with (fail)
    refine (need_no 622 w5).mono ?_
    rintro e w8 ⟨rfl, rfl⟩
    go_wp2_with (fail)
    exact ⟨rfl, S5.out.be, .inr ⟨by rw [HN.out]; decide, by rw [HN.out]⟩⟩
  case true =>
  have HN : Hid (mm = 0) := Lib.hid (by rw [← HMM2.out, hm]; rfl)
  clear hm HMM2
  rw [if_pos rfl]
  go_wp2_with (fail)
  refine (need_ok 622 w5).mono ?_
  rintro e w6 ⟨rfl, rfl⟩
  go_upto_region 10 with (fail)
  go_wp2_with (refine wpList_load_part rfl 28 (.tmp 4) rfl bl 0 rfl (Ac.c l pl).toList _ ((HLO.out.on S5.out.be).part) Try.underlying28 rfl acl_size (Ac.v l pl) rfl ?_)
  refine (copy_calls l pl w6 (HLL.out.below S5.out.be) HLS.out).mono ?_
  rintro e w7 ⟨q, rfl, hC, hb⟩
  have S7 := Lib.hid (S5.out.on hb)
  have HL := Lib.hid (LiesO.of hC)
  clear hb hC S5
  obtain ⟨U1, hU1⟩ : ∃ U, U = World.setRow w7 w.heap.size (At.c (withDf x true x.df) p) := ⟨_, rfl⟩
  have S8 := Lib.hid (S7.out.put (y := withDf x true x.df) (q := p) (S7.out.ow.dfl true S7.out.ow.df))
  rw [← hU1] at S8
  have HL8 := Lib.hid (HL.out.turn S7.out.bt (by decide) (At.c (withDf x true x.df) p))
  rw [← hU1] at HL8
  have HU1 := Lib.hid hU1
  clear hU1
  obtain ⟨U2, hU2⟩ : ∃ U, U = World.setRow U1 w.heap.size (At.c (withDf x true l) ⟨p.p, q, p.X, p.n⟩) := ⟨_, rfl⟩
  have S9 := Lib.hid (S8.out.put (y := withDf x true l) (q := ⟨p.p, q, p.X, p.n⟩) (AOw.dfl (x := x) (p := p) ⟨S8.out.ow.ac, S8.out.ow.df, S8.out.ow.xs⟩ true HL8.out))
  rw [← hU2] at S9
  have HU2 := Lib.hid hU2
  clear hU2
  go_upto_region 13 with (first
    | (refine wpList_store_part rfl 4 (.tmp 51) (.const (.bool true)) rfl rfl w.heap.size 10 [.bool true] rfl rfl 31 _ S7.out.bt bool_size (Nat.le_of_ble_eq_true rfl) (one_of rfl) (At.c (withDf x true x.df) p) rfl ?_; rw [← HU1.out])
    | (refine wpList_store_part rfl 28 (.tmp 52) (.tmp 50) rfl rfl w.heap.size 11 (Ac.c l q).toList rfl rfl 31 _ S8.out.bt acl_size (Nat.le_of_ble_eq_true rfl) (acl_one _ _) (At.c (withDf x true l) ⟨p.p, q, p.X, p.n⟩) rfl ?_; rw [← HU2.out]))
  clear HU1 HU2 S7 S8 HL HL8
  have HY : Hid (aclX c x k 2 l = withDf x true l) := Lib.hid rfl
  generalize withDf x true l = y at *
  obtain ⟨p2, hp2⟩ : ∃ p2 : ALie, ⟨p.p, q, p.X, p.n⟩ = p2 := ⟨_, rfl⟩
  rw [hp2] at S9
  clear hp2
  obtain ⟨C, hC⟩ : ∃ C, C = At.c (y) p2 := ⟨_, rfl⟩
  have hone : C.all (·.oneCell') = true := by rw [hC]; exact c_one _ _
  have hsz : (Try.prog.info? 31).map (·.size) = some C.size := by rw [hC]; exact c_size _ _
  have hold : (zAt : Array Value).size = C.size := by rw [hC]; rfl
  have HBT : Hid ((World.heap U2)[w.heap.size]? = some (.cells C 31 (0, 0))) := Lib.hid (by rw [hC]; exact S9.out.bt)
  obtain ⟨Z, hZ⟩ : ∃ Z, Z = World.setRow U2 (w.heap.size + 1) C := ⟨_, rfl⟩
  have HR := Lib.hid (S9.out.res C)
  rw [← hZ] at HR
  have HC := Lib.hid hC
  have HZZ := Lib.hid hZ
  clear hC hZ
  go_wp2_with (first
    | (refine wpList_load_row rfl 31 (.tmp 5) rfl w.heap.size rfl 31 C (0, 0) _ HBT.out Try.underlying31 rfl hsz ?_)
    | (refine wpList_store_rowTo rfl 31 (.tmp 6) (.tmp 58) rfl rfl (w.heap.size + 1) C rfl rfl 31 _ S9.out.rb hsz hold hone ?_; rw [← HZZ.out]))
  exact bodyPost_ret (results_cell_row rfl _ _ (w.heap.size + 1) 31 _ (0, 0) _ rfl HR.out.rb Try.underlying31 rfl hsz) rfl ⟨HR.out.be, .inl ⟨HN.out, p2, by rw [HC.out, HY.out], by rw [HY.out]; exact HR.out.ow⟩⟩
set_option maxRecDepth 100000 in
set_option maxHeartbeats 8000000 in
theorem acl3_calls (c : Cr) (A : Option Addr) (n : Nat) (x : At) (p : ALie) (bc bw bl bk k : Nat) (l : Ac) (pl : Lie) (w : World) (hv : validB c x = true) (h : AOw w x p) (hcb : Cb w bc c A n) (hcl : CLies w c A)
    (hw : One w bw (.int .u8 (3 : Nat)) 5) (hl : Ab w bl l pl) (hll : Lies w l pl) (hls : Sm l) (hk : One w bk (.int .u8 (k : Nat)) 5) :
    Calls Try.prog 53 #[x.v p, .pointer (some ⟨bw, 0, none⟩), .pointer (some ⟨bc, 0, none⟩), .pointer (some ⟨bk, 0, none⟩), .pointer (some ⟨bl, 0, none⟩)] w fun e w' => Ends w (aclM c x k 3 l) (aclX c x k 3 l) e w' := by
  obtain ⟨V, hV⟩ : ∃ V, V = (w.alloc (.cells (x.c p) 31)).alloc (.cells zAt 31) := ⟨_, rfl⟩
  have S0 : Hid (Wk w V w.heap.size x p (w.heap.size + 1) zAt) := Lib.hid (by rw [hV]; exact Wk.start w h)
  have HM := Lib.hid (valid_parts hv).2
  have HCB := Lib.hid hcb
  have HCL := Lib.hid hcl
  have HWO := Lib.hid hw
  have HLO := Lib.hid hl
  have HLL := Lib.hid hll
  have HLS := Lib.hid hls
  have HKO := Lib.hid hk
  obtain ⟨mm, hmm⟩ : ∃ mm, aclM c x k 3 l = mm := ⟨_, rfl⟩
  rw [hmm]
  have HMM := Lib.hid hmm
  clear h hv hcb hcl hk hw hl hll hls hmm
  go_enter Try.func53, Try.ntmps53
  go_upto_region 1 with (fail)
  rw [← hV]
  clear hV
  have yw := (HWO.out.on S0.out.be).cell
  go_wp2_with (fail)
  refine (need_ok 622 V).mono ?_
  rintro e w1 ⟨rfl, rfl⟩
  have HMM1 : Hid ((if ownsB c x then (if decide (k = 2) then (0 : Int) else 613) else 601) = mm) := Lib.hid (by rw [← HMM.out, aclM_in (by omega)]; rfl)
  clear HMM
  go_wp2_with (first
  | (refine wpList_load_part rfl 25 (.tmp 2) rfl bc 0 rfl (Cr.c c A n).toList _ (HCB.out.on S0.out.be).all Try.underlying25 rfl cred_size (Cr.v c A n) rfl ?_)
  | (refine wpList_load_part rfl 31 (.tmp 5) rfl w.heap.size 0 rfl (At.c x p).toList _ (S0.out.bt).bt0 Try.underlying31 rfl attr_size (At.v x p) rfl ?_))
  refine (owns_calls c A n x p w1).mono ?_
  rintro e w2 ⟨rfl, hb⟩
  have S1 := Lib.hid (S0.out.on hb)
  clear hb S0 yw
  have yw := (HWO.out.on S1.out.be).cell
  have yk := (HKO.out.on S1.out.be).cell
  cases ho : ownsB c x
  case false =>
    have HN : Hid (mm = 601) := Lib.hid (by rw [← HMM1.out, ho]; rfl)
    clear ho HMM1
    go_wp2_with (fail)
    refine (need_no 601 w2).mono ?_
    rintro e w8 ⟨rfl, rfl⟩
    go_wp2_with (fail)
    exact ⟨rfl, S1.out.be, .inr ⟨by rw [HN.out]; decide, by rw [HN.out]⟩⟩
  case true =>
  go_wp2_with (fail)
  refine (need_ok 601 w2).mono ?_
  rintro e w3 ⟨rfl, rfl⟩
  by_cases h2 : k = 2
  case neg =>
    have d2 : ((k : Int) == 2) = false := by rw [beq_eq_false_iff_ne]; omega
    have HN : Hid (mm = 613) := Lib.hid (by rw [← HMM1.out, ho, decide_eq_false h2]; rfl)
    clear ho HMM1 h2
    go_wp2_with (fail)
    refine (need_no 613 w3).mono ?_
    rintro e w8 ⟨rfl, rfl⟩
    go_wp2_with (fail)
    exact ⟨rfl, S1.out.be, .inr ⟨by rw [HN.out]; decide, by rw [HN.out]⟩⟩
  case pos =>
  have d2 : ((k : Int) == 2) = true := by rw [h2]; rfl
  have HMM2 : Hid ((0 : Int) = mm) := Lib.hid (by rw [← HMM1.out, ho, decide_eq_true h2]; rfl)
  clear ho HMM1 h2
  go_wp2_with (fail)
  refine (need_ok 613 w3).mono ?_
  rintro e w4 ⟨rfl, rfl⟩
  clear d2
  have HN : Hid (mm = 0) := Lib.hid HMM2.out.symm
  clear HMM2
  go_wp2_with (fail)
  refine (need_ok 622 w4).mono ?_
  rintro e w5 ⟨rfl, rfl⟩
  have S5 := S1
  clear S1 yk
  go_upto_region 12 with (fail)
  obtain ⟨U1, hU1⟩ : ∃ U, U = World.setRow w5 w.heap.size (At.c (withDf x false x.df) p) := ⟨_, rfl⟩
  have S8 := Lib.hid (S5.out.put (y := withDf x false x.df) (q := p) (S5.out.ow.dfl false S5.out.ow.df))
  rw [← hU1] at S8
  have HU1 := Lib.hid hU1
  clear hU1
  obtain ⟨U2, hU2⟩ : ∃ U, U = World.setRow U1 w.heap.size (At.c (withDf x false acZ) ⟨p.p, lieZ, p.X, p.n⟩) := ⟨_, rfl⟩
  have S9 := Lib.hid (S8.out.put (y := withDf x false acZ) (q := ⟨p.p, lieZ, p.X, p.n⟩) (AOw.dfl (x := x) (p := p) ⟨S8.out.ow.ac, S8.out.ow.df, S8.out.ow.xs⟩ false (LiesO.z _)))
  rw [← hU2] at S9
  have HU2 := Lib.hid hU2
  clear hU2
  go_upto_region 13 with (first
    | (refine wpList_buildTo rfl 28 #[] rfl (some 55) rfl zC (by kernel_rfl) ?_)
    | (refine wpList_store_part rfl 4 (.tmp 56) (.const (.bool false)) rfl rfl w.heap.size 10 [.bool false] rfl rfl 31 _ S5.out.bt bool_size (Nat.le_of_ble_eq_true rfl) (one_of rfl) (At.c (withDf x false x.df) p) rfl ?_; rw [← HU1.out])
    | (refine wpList_store_part rfl 28 (.tmp 57) (.tmp 55) rfl rfl w.heap.size 11 (Ac.c acZ lieZ).toList rfl rfl 31 _ S8.out.bt acl_size (Nat.le_of_ble_eq_true rfl) (acl_one _ _) (At.c (withDf x false acZ) ⟨p.p, lieZ, p.X, p.n⟩) rfl ?_; rw [← HU2.out]))
  clear HU1 HU2 S5 S8
  have HY : Hid (aclX c x k 3 l = withDf x false acZ) := Lib.hid rfl
  generalize withDf x false acZ = y at *
  obtain ⟨p2, hp2⟩ : ∃ p2 : ALie, ⟨p.p, lieZ, p.X, p.n⟩ = p2 := ⟨_, rfl⟩
  rw [hp2] at S9
  clear hp2
  obtain ⟨C, hC⟩ : ∃ C, C = At.c (y) p2 := ⟨_, rfl⟩
  have hone : C.all (·.oneCell') = true := by rw [hC]; exact c_one _ _
  have hsz : (Try.prog.info? 31).map (·.size) = some C.size := by rw [hC]; exact c_size _ _
  have hold : (zAt : Array Value).size = C.size := by rw [hC]; rfl
  have HBT : Hid ((World.heap U2)[w.heap.size]? = some (.cells C 31 (0, 0))) := Lib.hid (by rw [hC]; exact S9.out.bt)
  obtain ⟨Z, hZ⟩ : ∃ Z, Z = World.setRow U2 (w.heap.size + 1) C := ⟨_, rfl⟩
  have HR := Lib.hid (S9.out.res C)
  rw [← hZ] at HR
  have HC := Lib.hid hC
  have HZZ := Lib.hid hZ
  clear hC hZ
  go_wp2_with (first
    | (refine wpList_load_row rfl 31 (.tmp 5) rfl w.heap.size rfl 31 C (0, 0) _ HBT.out Try.underlying31 rfl hsz ?_)
    | (refine wpList_store_rowTo rfl 31 (.tmp 6) (.tmp 58) rfl rfl (w.heap.size + 1) C rfl rfl 31 _ S9.out.rb hsz hold hone ?_; rw [← HZZ.out]))
  exact bodyPost_ret (results_cell_row rfl _ _ (w.heap.size + 1) 31 _ (0, 0) _ rfl HR.out.rb Try.underlying31 rfl hsz) rfl ⟨HR.out.be, .inl ⟨HN.out, p2, by rw [HC.out, HY.out], by rw [HY.out]; exact HR.out.ow⟩⟩
set_option maxRecDepth 100000 in
set_option maxHeartbeats 8000000 in
theorem acl0_calls (c : Cr) (A : Option Addr) (n : Nat) (x : At) (p : ALie) (bc bw bl bk k : Nat) (wh : Nat) (l : Ac) (pl : Lie) (w : World) (hv : validB c x = true) (h : AOw w x p) (hcb : Cb w bc c A n) (hcl : CLies w c A)
    (hw : One w bw (.int .u8 (wh : Nat)) 5) (hl : Ab w bl l pl) (hll : Lies w l pl) (hls : Sm l) (hk : One w bk (.int .u8 (k : Nat)) 5) (h13 : ¬ (1 ≤ wh ∧ wh ≤ 3)) :
    Calls Try.prog 53 #[x.v p, .pointer (some ⟨bw, 0, none⟩), .pointer (some ⟨bc, 0, none⟩), .pointer (some ⟨bk, 0, none⟩), .pointer (some ⟨bl, 0, none⟩)] w fun e w' => Ends w (aclM c x k wh l) (aclX c x k wh l) e w' := by
  obtain ⟨V, hV⟩ : ∃ V, V = (w.alloc (.cells (x.c p) 31)).alloc (.cells zAt 31) := ⟨_, rfl⟩
  have S0 : Hid (Wk w V w.heap.size x p (w.heap.size + 1) zAt) := Lib.hid (by rw [hV]; exact Wk.start w h)
  have HM := Lib.hid (valid_parts hv).2
  have HCB := Lib.hid hcb
  have HCL := Lib.hid hcl
  have HWO := Lib.hid hw
  have HLO := Lib.hid hl
  have HLL := Lib.hid hll
  have HLS := Lib.hid hls
  have HKO := Lib.hid hk
  obtain ⟨mm, hmm⟩ : ∃ mm, aclM c x k wh l = mm := ⟨_, rfl⟩
  rw [hmm]
  have HMM := Lib.hid hmm
  clear h hv hcb hcl hk hw hl hll hls hmm
  go_enter Try.func53, Try.ntmps53
  go_upto_region 1 with (fail)
  rw [← hV]
  clear hV
  have yw := (HWO.out.on S0.out.be).cell
  have d1 : ((wh : Int) == 1) = false := by rw [beq_eq_false_iff_ne]; omega
  have d2 : ((wh : Int) == 2) = false := by rw [beq_eq_false_iff_ne]; omega
  have d3 : ((wh : Int) == 3) = false := by rw [beq_eq_false_iff_ne]; omega
  have HN : Hid (mm = 622) := Lib.hid (by rw [← HMM.out]; exact aclM_wh h13)
  clear HMM h13
  go_wp2_with (fail)
  refine (need_no 622 V).mono ?_
  rintro e w8 ⟨rfl, rfl⟩
  go_wp2_with (fail)
  exact ⟨rfl, S0.out.be, .inr ⟨by rw [HN.out]; decide, by rw [HN.out]⟩⟩
end Go.Proofs.Ytdioafoikcfhhaa
