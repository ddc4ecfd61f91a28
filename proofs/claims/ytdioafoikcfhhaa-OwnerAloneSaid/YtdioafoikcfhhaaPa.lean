/- The document's SetAcl. -/
import Derived.Test.YtdioafoikcfhhaaOz
set_option linter.unusedSimpArgs false
set_option linter.unusedVariables false
set_option linter.unusedSimpArgs false
set_option linter.unusedVariables false
namespace Go.Proofs.Ytdioafoikcfhhaa
open Go.RowKit
set_option maxRecDepth 100000 in
set_option maxHeartbeats 8000000 in
theorem racl_bad (c : Cr) (A : Option Addr) (n : Nat) (x : At) (p : ALie) (k wh : Nat) (l : Ac) (pl : Lie) (w : World) (hc : CLies w c A) (h : ALies w x p) (hs : ASm x) (hks : Ks x) (hll : Lies w l pl) (hls : Sm l) (hb : ¬ (1 ≤ wh ∧ wh ≤ 3)) :
    Calls Try.prog 24 #[c.v A n, x.v p, .int .u8 (k : Nat), .int .u8 (wh : Nat), l.v pl] w fun e w' => ∃ q, e = .returned (.tuple #[At.v (aclA c x k wh l) q, .int .i64 (aclN c x k wh l)]) ∧ AOw w' (aclA c x k wh l) q ∧ Below w.heap.size w w' := by
  obtain ⟨V, hV⟩ : ∃ V, V = (((w.alloc (.cells (c.c A n) 25)).alloc (.cells (x.c p) 31)).alloc (.cells (l.c pl) 28)).alloc (.cells zAt 31) := ⟨_, rfl⟩
  have S0 : Hid (Pz w V c A n x p (w.heap.size + 3)) := Lib.hid (by rw [hV]; exact ⟨((Pb.start hc h).one _).one _, (by
    have := heap_alloc_new (((w.alloc (.cells (c.c A n) 25)).alloc (.cells (x.c p) 31)).alloc (.cells (l.c pl) 28)) (.cells zAt 31)
    simpa only [World.size_alloc, Nat.add_assoc] using this), by omega⟩)
  have HS := Lib.hid hs
  have HKS := Lib.hid hks
  have HLO : Hid (Ab V (w.heap.size + 2) l pl) := Lib.hid (by
    rw [hV]
    have := (Ab.new ((w.alloc (.cells (c.c A n) 25)).alloc (.cells (x.c p) 31)) l pl).on ((Below.refl _ _).alloc (Nat.le_refl _) (.cells zAt 31))
    simpa only [World.size_alloc, Nat.add_assoc] using this)
  have HLL := Lib.hid (hll.below S0.out.pb.be)
  have HLS := Lib.hid hls
  clear hll hls
  have HNN : Hid (aclN c x k wh l = 622) := Lib.hid (by unfold aclN; rw [if_neg (show ¬ ((decide (1 ≤ wh) && decide (wh ≤ 3)) = true) by rw [Bool.and_eq_true, decide_eq_true_eq, decide_eq_true_eq]; exact hb)]; cases validB c x <;> rfl)
  have HNA : Hid (aclA c x k wh l = atZ) := Lib.hid (by unfold aclA; rw [HNN.out]; rfl)
  have hways : wh < 1 ∨ (1 ≤ wh ∧ 3 < wh) := by omega
  have HW := Lib.hid hways
  clear hways hb
  obtain ⟨X, hX⟩ : ∃ X, aclA c x k wh l = X := ⟨_, rfl⟩
  obtain ⟨N, hN⟩ : ∃ N, aclN c x k wh l = N := ⟨_, rfl⟩
  rw [hX, hN]
  have HX := Lib.hid hX
  have HN := Lib.hid hN
  clear h hc hs hks hX hN
  go_enter Try.func24, Try.ntmps24
  go_upto_region 1 with (fail)
  rw [← hV]
  clear hV
  go_wp2_with (first
  | (refine wpList_load_part rfl 25 (.tmp 5) rfl w.heap.size 0 rfl (Cr.c c A n).toList _ (S0.out.pb.cb).all Try.underlying25 rfl cred_size (Cr.v c A n) rfl ?_)
  | (refine wpList_load_part rfl 31 (.tmp 6) rfl (w.heap.size + 1) 0 rfl (At.c x p).toList _ (S0.out.pb.bt).bt0 Try.underlying31 rfl attr_size (At.v x p) rfl ?_))
  refine (rmayo_calls c A n x p V S0.out.pb.cl S0.out.pb.al HS.out HKS.out).mono ?_
  rintro e w1 ⟨rfl, hb⟩
  have S1 := Lib.hid (S0.out.on hb)
  have HLO1 := Lib.hid (HLO.out.on hb)
  have HLL1 := Lib.hid (HLL.out.below hb)
  clear hb S0 HLO HLL
  cases hv : validB c x
  case false =>
    clear hv HW
    have HA : Hid (X = atZ) := Lib.hid (by rw [← HX.out]; exact HNA.out)
    have HN2 : Hid (N = 622) := Lib.hid (by rw [← HN.out]; exact HNN.out)
    have hone : (zAt).all (·.oneCell') = true := by rw [← Array.all_toList]; rfl
    obtain ⟨Z, hZ⟩ : ∃ Z, Z = World.setRow w1 (w.heap.size + 3) zAt := ⟨_, rfl⟩
    have HR : Hid (Z.heap[(w.heap.size + 3)]? = some (.cells zAt 31 (0, 0))) := Lib.hid (by rw [hZ]; exact setRow_heap _ _ _ _ _ _ S1.out.rz)
    have HBZ : Hid (Below w.heap.size w Z) := Lib.hid (by rw [hZ]; exact below_setRow S1.out.pb.be S1.out.hr _)
    have HZZ := Lib.hid hZ
    clear hZ
    go_wp2_with (first
      | (refine wpList_buildTo rfl 31 #[] rfl (some 25) rfl zAt (by kernel_rfl) ?_)
      | (refine wpList_store_rowTo rfl 31 (.tmp 10) (.tmp 25) rfl rfl (w.heap.size + 3) zAt rfl rfl 31 _ S1.out.rz attr_size rfl hone ?_; rw [← HZZ.out]))
    exact bodyPost_ret (results_row_tmp rfl _ _ (w.heap.size + 3) 31 zAt (0, 0) _ (.int .i64 622) rfl HR.out rfl Try.underlying31 rfl attr_size) rfl ⟨alieZ, by rw [HA.out, HN2.out]; rfl, by rw [HA.out]; exact AOw.z _, HBZ.out⟩
  case true =>
  clear hv
  have hways := HW.out
  clear HW
  rcases hways with h1 | ⟨h1, h2⟩
  case inl =>
    have d1 : decide ((wh : Int) < 1) = true := by rw [decide_eq_true_eq]; omega
    have d1' : decide (wh < 1) = true := decide_eq_true h1
    have h0 : wh = 0 := by omega
    subst h0
    clear h1 d1 d1'
    have HA : Hid (X = atZ) := Lib.hid (by rw [← HX.out]; exact HNA.out)
    have HN2 : Hid (N = 622) := Lib.hid (by rw [← HN.out]; exact HNN.out)
    have hone : (zAt).all (·.oneCell') = true := by rw [← Array.all_toList]; rfl
    obtain ⟨Z, hZ⟩ : ∃ Z, Z = World.setRow w1 (w.heap.size + 3) zAt := ⟨_, rfl⟩
    have HR : Hid (Z.heap[(w.heap.size + 3)]? = some (.cells zAt 31 (0, 0))) := Lib.hid (by rw [hZ]; exact setRow_heap _ _ _ _ _ _ S1.out.rz)
    have HBZ : Hid (Below w.heap.size w Z) := Lib.hid (by rw [hZ]; exact below_setRow S1.out.pb.be S1.out.hr _)
    have HZZ := Lib.hid hZ
    clear hZ
    go_wp2_with (first
      | (refine wpList_buildTo rfl 31 #[] rfl (some 25) rfl zAt (by kernel_rfl) ?_)
      | (refine wpList_store_rowTo rfl 31 (.tmp 10) (.tmp 25) rfl rfl (w.heap.size + 3) zAt rfl rfl 31 _ S1.out.rz attr_size rfl hone ?_; rw [← HZZ.out]))
    exact bodyPost_ret (results_row_tmp rfl _ _ (w.heap.size + 3) 31 zAt (0, 0) _ (.int .i64 622) rfl HR.out rfl Try.underlying31 rfl attr_size) rfl ⟨alieZ, by rw [HA.out, HN2.out]; rfl, by rw [HA.out]; exact AOw.z _, HBZ.out⟩
  case inr =>
    have d1 : decide ((wh : Int) < 1) = false := by rw [decide_eq_false_iff_not]; omega
    have d1' : decide (wh < 1) = false := by rw [decide_eq_false_iff_not]; omega
    have d2 : decide ((3 : Int) < (wh : Int)) = true := by rw [decide_eq_true_eq]; omega
    have d2' : decide (3 < wh) = true := decide_eq_true h2
    have h0 : ¬ wh = 0 := by omega
    have h0' : (wh == 0) = false := by rw [beq_eq_false_iff_ne]; omega
    have h0'' : decide (wh = 0) = false := by rw [decide_eq_false_iff_not]; omega
    clear h1 h2
    have HA : Hid (X = atZ) := Lib.hid (by rw [← HX.out]; exact HNA.out)
    have HN2 : Hid (N = 622) := Lib.hid (by rw [← HN.out]; exact HNN.out)
    have hone : (zAt).all (·.oneCell') = true := by rw [← Array.all_toList]; rfl
    obtain ⟨Z, hZ⟩ : ∃ Z, Z = World.setRow w1 (w.heap.size + 3) zAt := ⟨_, rfl⟩
    have HR : Hid (Z.heap[(w.heap.size + 3)]? = some (.cells zAt 31 (0, 0))) := Lib.hid (by rw [hZ]; exact setRow_heap _ _ _ _ _ _ S1.out.rz)
    have HBZ : Hid (Below w.heap.size w Z) := Lib.hid (by rw [hZ]; exact below_setRow S1.out.pb.be S1.out.hr _)
    have HZZ := Lib.hid hZ
    clear hZ
    go_wp2_with (first
      | (refine wpList_buildTo rfl 31 #[] rfl (some 25) rfl zAt (by kernel_rfl) ?_)
      | (refine wpList_store_rowTo rfl 31 (.tmp 10) (.tmp 25) rfl rfl (w.heap.size + 3) zAt rfl rfl 31 _ S1.out.rz attr_size rfl hone ?_; rw [← HZZ.out]))
    exact bodyPost_ret (results_row_tmp rfl _ _ (w.heap.size + 3) 31 zAt (0, 0) _ (.int .i64 622) rfl HR.out rfl Try.underlying31 rfl attr_size) rfl ⟨alieZ, by rw [HA.out, HN2.out]; rfl, by rw [HA.out]; exact AOw.z _, HBZ.out⟩
set_option maxRecDepth 100000 in
set_option maxHeartbeats 8000000 in
theorem racl_1 (c : Cr) (A : Option Addr) (n : Nat) (x : At) (p : ALie) (k : Nat) (l : Ac) (pl : Lie) (w : World) (hc : CLies w c A) (h : ALies w x p) (hs : ASm x) (hks : Ks x) (hll : Lies w l pl) (hls : Sm l) :
    Calls Try.prog 24 #[c.v A n, x.v p, .int .u8 (k : Nat), .int .u8 (1 : Nat), l.v pl] w fun e w' => ∃ q, e = .returned (.tuple #[At.v (aclA c x k 1 l) q, .int .i64 (aclN c x k 1 l)]) ∧ AOw w' (aclA c x k 1 l) q ∧ Below w.heap.size w w' := by
  obtain ⟨V, hV⟩ : ∃ V, V = (((w.alloc (.cells (c.c A n) 25)).alloc (.cells (x.c p) 31)).alloc (.cells (l.c pl) 28)).alloc (.cells zAt 31) := ⟨_, rfl⟩
  have S0 : Hid (Pz w V c A n x p (w.heap.size + 3)) := Lib.hid (by rw [hV]; exact ⟨((Pb.start hc h).one _).one _, (by
    have := heap_alloc_new (((w.alloc (.cells (c.c A n) 25)).alloc (.cells (x.c p) 31)).alloc (.cells (l.c pl) 28)) (.cells zAt 31)
    simpa only [World.size_alloc, Nat.add_assoc] using this), by omega⟩)
  have HS := Lib.hid hs
  have HKS := Lib.hid hks
  have HLO : Hid (Ab V (w.heap.size + 2) l pl) := Lib.hid (by
    rw [hV]
    have := (Ab.new ((w.alloc (.cells (c.c A n) 25)).alloc (.cells (x.c p) 31)) l pl).on ((Below.refl _ _).alloc (Nat.le_refl _) (.cells zAt 31))
    simpa only [World.size_alloc, Nat.add_assoc] using this)
  have HLL := Lib.hid (hll.below S0.out.pb.be)
  have HLS := Lib.hid hls
  clear hll hls
  obtain ⟨X, hX⟩ : ∃ X, aclA c x k 1 l = X := ⟨_, rfl⟩
  obtain ⟨N, hN⟩ : ∃ N, aclN c x k 1 l = N := ⟨_, rfl⟩
  rw [hX, hN]
  have HX := Lib.hid hX
  have HN := Lib.hid hN
  clear h hc hs hks hX hN
  go_enter Try.func24, Try.ntmps24
  go_upto_region 1 with (fail)
  rw [← hV]
  clear hV
  go_wp2_with (first
  | (refine wpList_load_part rfl 25 (.tmp 5) rfl w.heap.size 0 rfl (Cr.c c A n).toList _ (S0.out.pb.cb).all Try.underlying25 rfl cred_size (Cr.v c A n) rfl ?_)
  | (refine wpList_load_part rfl 31 (.tmp 6) rfl (w.heap.size + 1) 0 rfl (At.c x p).toList _ (S0.out.pb.bt).bt0 Try.underlying31 rfl attr_size (At.v x p) rfl ?_))
  refine (rmayo_calls c A n x p V S0.out.pb.cl S0.out.pb.al HS.out HKS.out).mono ?_
  rintro e w1 ⟨rfl, hb⟩
  have S1 := Lib.hid (S0.out.on hb)
  have HLO1 := Lib.hid (HLO.out.on hb)
  have HLL1 := Lib.hid (HLL.out.below hb)
  clear hb S0 HLO HLL
  cases hv : validB c x
  case false =>
    have HNN : Hid (aclN c x k 1 l = 622) := Lib.hid (by unfold aclN; rw [hv]; rfl)
    clear hv
    have HNA : Hid (aclA c x k 1 l = atZ) := Lib.hid (by unfold aclA; rw [HNN.out]; rfl)
    have HA : Hid (X = atZ) := Lib.hid (by rw [← HX.out]; exact HNA.out)
    have HN2 : Hid (N = 622) := Lib.hid (by rw [← HN.out]; exact HNN.out)
    have hone : (zAt).all (·.oneCell') = true := by rw [← Array.all_toList]; rfl
    obtain ⟨Z, hZ⟩ : ∃ Z, Z = World.setRow w1 (w.heap.size + 3) zAt := ⟨_, rfl⟩
    have HR : Hid (Z.heap[(w.heap.size + 3)]? = some (.cells zAt 31 (0, 0))) := Lib.hid (by rw [hZ]; exact setRow_heap _ _ _ _ _ _ S1.out.rz)
    have HBZ : Hid (Below w.heap.size w Z) := Lib.hid (by rw [hZ]; exact below_setRow S1.out.pb.be S1.out.hr _)
    have HZZ := Lib.hid hZ
    clear hZ
    go_wp2_with (first
      | (refine wpList_buildTo rfl 31 #[] rfl (some 25) rfl zAt (by kernel_rfl) ?_)
      | (refine wpList_store_rowTo rfl 31 (.tmp 10) (.tmp 25) rfl rfl (w.heap.size + 3) zAt rfl rfl 31 _ S1.out.rz attr_size rfl hone ?_; rw [← HZZ.out]))
    exact bodyPost_ret (results_row_tmp rfl _ _ (w.heap.size + 3) 31 zAt (0, 0) _ (.int .i64 622) rfl HR.out rfl Try.underlying31 rfl attr_size) rfl ⟨alieZ, by rw [HA.out, HN2.out]; rfl, by rw [HA.out]; exact AOw.z _, HBZ.out⟩
  case true =>
  have HM := Lib.hid (valid_parts hv).2
  have HNV : Hid (aclN c x k 1 l = (if ownsB c x then (if decide (1 = 1) || decide (k = 2) then (if decide (1 = 3) || mayB l then 0 else 622) else 613) else 601)) := Lib.hid (by
    have h1 : aclN c x k 1 l = aclM c x k 1 l := by unfold aclN aclM; rw [hv]; rfl
    rw [h1]
    exact aclM_in (by omega))
  go_wp2_with (first
  | (refine wpList_load_part rfl 25 (.tmp 5) rfl w.heap.size 0 rfl (Cr.c c A n).toList _ (S1.out.pb.cb).all Try.underlying25 rfl cred_size (Cr.v c A n) rfl ?_)
  | (refine wpList_load_part rfl 31 (.tmp 6) rfl (w.heap.size + 1) 0 rfl (At.c x p).toList _ (S1.out.pb.bt).bt0 Try.underlying31 rfl attr_size (At.v x p) rfl ?_))
  refine (rownso_calls c A n x p w1 S1.out.pb.cl S1.out.pb.al HS.out HKS.out).mono ?_
  rintro e w2 ⟨rfl, hb⟩
  have S2 := Lib.hid (S1.out.on hb)
  have HLO2 := Lib.hid (HLO1.out.on hb)
  have HLL2 := Lib.hid (HLL1.out.below hb)
  clear hb S1 HLO1 HLL1
  rw [show ownB c x = ownsB c x by unfold ownB; rw [hv]; rfl]
  clear hv
  cases ho : ownsB c x
  case false =>
    have HNN : Hid (aclN c x k 1 l = 601) := Lib.hid (by rw [HNV.out, ho]; rfl)
    clear ho HNV
    have HNA : Hid (aclA c x k 1 l = atZ) := Lib.hid (by unfold aclA; rw [HNN.out]; rfl)
    have HA : Hid (X = atZ) := Lib.hid (by rw [← HX.out]; exact HNA.out)
    have HN2 : Hid (N = 601) := Lib.hid (by rw [← HN.out]; exact HNN.out)
    have hone : (zAt).all (·.oneCell') = true := by rw [← Array.all_toList]; rfl
    obtain ⟨Z, hZ⟩ : ∃ Z, Z = World.setRow w2 (w.heap.size + 3) zAt := ⟨_, rfl⟩
    have HR : Hid (Z.heap[(w.heap.size + 3)]? = some (.cells zAt 31 (0, 0))) := Lib.hid (by rw [hZ]; exact setRow_heap _ _ _ _ _ _ S2.out.rz)
    have HBZ : Hid (Below w.heap.size w Z) := Lib.hid (by rw [hZ]; exact below_setRow S2.out.pb.be S2.out.hr _)
    have HZZ := Lib.hid hZ
    clear hZ
    go_wp2_with (first
      | (refine wpList_buildTo rfl 31 #[] rfl (some 30) rfl zAt (by kernel_rfl) ?_)
      | (refine wpList_store_rowTo rfl 31 (.tmp 10) (.tmp 30) rfl rfl (w.heap.size + 3) zAt rfl rfl 31 _ S2.out.rz attr_size rfl hone ?_; rw [← HZZ.out]))
    exact bodyPost_ret (results_row_tmp rfl _ _ (w.heap.size + 3) 31 zAt (0, 0) _ (.int .i64 601) rfl HR.out rfl Try.underlying31 rfl attr_size) rfl ⟨alieZ, by rw [HA.out, HN2.out]; rfl, by rw [HA.out]; exact AOw.z _, HBZ.out⟩
  case true =>
  have HNW : Hid (aclN c x k 1 l = (if mayB l then 0 else 622)) := Lib.hid (by rw [HNV.out, ho]; rfl)
  clear ho HNV
  go_wp2_with (refine wpList_load_part rfl 28 (.tmp 9) rfl (w.heap.size + 2) 0 rfl (Ac.c l pl).toList _ (HLO2.out.part) Try.underlying28 rfl acl_size (Ac.v l pl) rfl ?_)
  refine (rmay_calls l pl w2 HLL2.out HLS.out).mono ?_
  rintro e w4 ⟨rfl, hb⟩
  have S4 := Lib.hid (S2.out.on hb)
  have HLOX := Lib.hid (HLO2.out.on hb)
  have HLLX := Lib.hid (HLL2.out.below hb)
  clear hb S2 HLO2 HLL2
  cases hm : mayB l
  case false =>
    have HNN : Hid (aclN c x k 1 l = 622) := Lib.hid (by rw [HNW.out, hm]; rfl)
    clear hm HNW
    have HNA : Hid (aclA c x k 1 l = atZ) := Lib.hid (by unfold aclA; rw [HNN.out]; rfl)
    have HA : Hid (X = atZ) := Lib.hid (by rw [← HX.out]; exact HNA.out)
    have HN2 : Hid (N = 622) := Lib.hid (by rw [← HN.out]; exact HNN.out)
    have hone : (zAt).all (·.oneCell') = true := by rw [← Array.all_toList]; rfl
    obtain ⟨Z, hZ⟩ : ∃ Z, Z = World.setRow w4 (w.heap.size + 3) zAt := ⟨_, rfl⟩
    have HR : Hid (Z.heap[(w.heap.size + 3)]? = some (.cells zAt 31 (0, 0))) := Lib.hid (by rw [hZ]; exact setRow_heap _ _ _ _ _ _ S4.out.rz)
    have HBZ : Hid (Below w.heap.size w Z) := Lib.hid (by rw [hZ]; exact below_setRow S4.out.pb.be S4.out.hr _)
    have HZZ := Lib.hid hZ
    clear hZ
    go_wp2_with (first
      | (refine wpList_buildTo rfl 31 #[] rfl (some 45) rfl zAt (by kernel_rfl) ?_)
      | (refine wpList_store_rowTo rfl 31 (.tmp 10) (.tmp 45) rfl rfl (w.heap.size + 3) zAt rfl rfl 31 _ S4.out.rz attr_size rfl hone ?_; rw [← HZZ.out]))
    exact bodyPost_ret (results_row_tmp rfl _ _ (w.heap.size + 3) 31 zAt (0, 0) _ (.int .i64 622) rfl HR.out rfl Try.underlying31 rfl attr_size) rfl ⟨alieZ, by rw [HA.out, HN2.out]; rfl, by rw [HA.out]; exact AOw.z _, HBZ.out⟩
  case true =>
  have HNN : Hid (aclN c x k 1 l = 0) := Lib.hid (by rw [HNW.out, hm]; rfl)
  have HN2 : Hid (N = 0) := Lib.hid (by rw [← HN.out]; exact HNN.out)
  have HA0 : Hid (X = aclX c x k 1 l) := Lib.hid (by rw [← HX.out]; unfold aclA; rw [HNN.out]; rfl)
  clear hm HNW HN HX HNN
  go_wp2_with (refine wpList_load_part rfl 31 (.tmp 6) rfl (w.heap.size + 1) 0 rfl (At.c x p).toList _ (S4.out.pb.bt).bt0 Try.underlying31 rfl attr_size (At.v x p) rfl ?_)
  refine (racopy_calls x p w4 S4.out.pb.al HS.out).mono ?_
  rintro e w5 ⟨q, rfl, hC0, hb⟩
  have T1 := Lib.hid (S4.out.on hb)
  have HO := Lib.hid (AOw.of hC0)
  have HLO5 := Lib.hid (HLOX.out.on hb)
  have HLL5 := Lib.hid (HLLX.out.below hb)
  clear hb hC0 S4 HLOX HLLX
  obtain ⟨C, hC⟩ : ∃ C, C = At.c (x) q := ⟨_, rfl⟩
  have hone : C.all (·.oneCell') = true := by rw [hC]; exact c_one _ _
  have hsz : (Try.prog.info? 31).map (·.size) = some C.size := by rw [hC]; exact c_size _ _
  have hold : (zAt : Array Value).size = C.size := by rw [hC]; rfl
  have HZn := Lib.hid (heap_alloc_new w5 (.cells zAt 31))
  obtain ⟨U0, hU⟩ : ∃ Zz, Zz = (w5.alloc (.cells zAt 31)).setRow w5.heap.size C := ⟨_, rfl⟩
  obtain ⟨g0, hg⟩ : ∃ Zz, Zz = w5.heap.size := ⟨_, rfl⟩
  have S3 : Hid (Wl w5 U0 g0 (x) q) := Lib.hid (by rw [hU, hg, hC]; exact Wl.fresh HO.out)
  rw [show At.v (x) q = .agg C by rw [hC]]
  clear hC HO
  go_upto_region 10 with (refine wpList_store_rowTo rfl 31 (.tmp 12) (.tmp 47) rfl rfl w5.heap.size C rfl rfl 31 _ HZn.out hsz hold hone ?_; rw [← hU])
  clear hU HZn hsz hold hone
  rw [← hg]
  clear hg
  go_upto_region 14 with (fail)
  go_wp2_with (refine wpList_load_part rfl 28 (.tmp 9) rfl (w.heap.size + 2) 0 rfl (Ac.c l pl).toList _ ((HLO5.out.on S3.out.be).part) Try.underlying28 rfl acl_size (Ac.v l pl) rfl ?_)
  refine (rcopy_calls l pl U0 (HLL5.out.below S3.out.be) HLS.out).mono ?_
  rintro e w7 ⟨ql, rfl, hC, hb⟩
  have S7 := Lib.hid (S3.out.on hb)
  have HL := Lib.hid (LiesO.of hC)
  clear hb hC S3
  obtain ⟨U1, hU1⟩ : ∃ Zz, Zz = World.setRow w7 g0 (At.c (withAc x l) ⟨ql, q.q, q.X, q.n⟩) := ⟨_, rfl⟩
  have S8 := Lib.hid (S7.out.put (S7.out.ow.acc HL.out))
  rw [← hU1] at S8
  go_upto_region 15 with (refine wpList_store_part rfl 28 (.tmp 56) (.tmp 55) rfl rfl g0 3 (Ac.c l ql).toList rfl rfl 31 _ S7.out.bt acl_size (Nat.le_of_ble_eq_true rfl) (acl_one _ _) (At.c (withAc x l) ⟨ql, q.q, q.X, q.n⟩) rfl ?_; rw [← hU1])
  clear hU1 S7 HL
  have HY : Hid (X = lostA c (withAc x l) k) := Lib.hid HA0.out
  have HYB : Hid ((withAc x l).bi < 256) := Lib.hid (by have := may8 HM.out; show x.bi < 256; omega)
  have HYS : Hid (ASm (withAc x l)) := Lib.hid ⟨HLS.out, (asm_of HM.out).df, (asm_of HM.out).xs⟩
  generalize withAc x l = y at *
  obtain ⟨p2, hp2⟩ : ∃ p2 : ALie, ⟨ql, q.q, q.X, q.n⟩ = p2 := ⟨_, rfl⟩
  rw [hp2] at S8
  clear hp2
  have P8 := Lib.hid (T1.out.on S8.out.be)
  go_wp2_with (first
    | (refine wpList_load_part rfl 25 (.tmp 5) rfl w.heap.size 0 rfl (Cr.c c A n).toList _ (P8.out.pb.cb).all Try.underlying25 rfl cred_size (Cr.v c A n) rfl ?_)
    | (refine wpList_load_part rfl 31 (.tmp 12) rfl g0 0 rfl (At.c y p2).toList _ (S8.out.bt).bt0 Try.underlying31 rfl attr_size (At.v y p2) rfl ?_))
  refine (rlost_calls c A n y p2 k U1 P8.out.pb.cl S8.out.ow.lies HYS.out HYB.out).mono ?_
  rintro e w9 ⟨q9, rfl, how, hb⟩
  have P9 := Lib.hid (P8.out.on hb)
  have HO := Lib.hid how
  clear hb how S8 P8 T1
  obtain ⟨C, hC⟩ : ∃ C, C = At.c (lostA c y k) q9 := ⟨_, rfl⟩
  have hone : C.all (·.oneCell') = true := by rw [hC]; exact c_one _ _
  have hsz : (Try.prog.info? 31).map (·.size) = some C.size := by rw [hC]; exact c_size _ _
  have hold : (zAt : Array Value).size = C.size := by rw [hC]; rfl
  obtain ⟨Z, hZ⟩ : ∃ Z, Z = World.setRow w9 (w.heap.size + 3) C := ⟨_, rfl⟩
  have HR : Hid (Z.heap[(w.heap.size + 3)]? = some (.cells C 31 (0, 0))) := Lib.hid (by rw [hZ]; exact setRow_heap _ _ _ _ _ _ P9.out.rz)
  have HOR := Lib.hid ((HO.out).turn P9.out.rz C)
  have HBR : Hid (Below w.heap.size w Z) := Lib.hid (by rw [hZ]; exact below_setRow P9.out.pb.be P9.out.hr _)
  rw [← hZ] at HOR
  have HC := Lib.hid hC
  have HZZ := Lib.hid hZ
  rw [show At.v (lostA c y k) q9 = .agg C by rw [hC]]
  clear hC hZ
  go_wp2_with (refine wpList_store_rowTo rfl 31 (.tmp 10) (.tmp 60) rfl rfl (w.heap.size + 3) C rfl rfl 31 _ P9.out.rz hsz hold hone ?_; rw [← HZZ.out])
  exact bodyPost_ret (results_row_tmp rfl _ _ (w.heap.size + 3) 31 C (0, 0) _ (.int .i64 0) rfl HR.out rfl Try.underlying31 rfl hsz) rfl ⟨q9, by rw [HC.out, HY.out, HN2.out], by rw [HY.out]; exact HOR.out, HBR.out⟩
set_option maxRecDepth 100000 in
set_option maxHeartbeats 8000000 in
theorem racl_2 (c : Cr) (A : Option Addr) (n : Nat) (x : At) (p : ALie) (k : Nat) (l : Ac) (pl : Lie) (w : World) (hc : CLies w c A) (h : ALies w x p) (hs : ASm x) (hks : Ks x) (hll : Lies w l pl) (hls : Sm l) :
    Calls Try.prog 24 #[c.v A n, x.v p, .int .u8 (k : Nat), .int .u8 (2 : Nat), l.v pl] w fun e w' => ∃ q, e = .returned (.tuple #[At.v (aclA c x k 2 l) q, .int .i64 (aclN c x k 2 l)]) ∧ AOw w' (aclA c x k 2 l) q ∧ Below w.heap.size w w' := by
  obtain ⟨V, hV⟩ : ∃ V, V = (((w.alloc (.cells (c.c A n) 25)).alloc (.cells (x.c p) 31)).alloc (.cells (l.c pl) 28)).alloc (.cells zAt 31) := ⟨_, rfl⟩
  have S0 : Hid (Pz w V c A n x p (w.heap.size + 3)) := Lib.hid (by rw [hV]; exact ⟨((Pb.start hc h).one _).one _, (by
    have := heap_alloc_new (((w.alloc (.cells (c.c A n) 25)).alloc (.cells (x.c p) 31)).alloc (.cells (l.c pl) 28)) (.cells zAt 31)
    simpa only [World.size_alloc, Nat.add_assoc] using this), by omega⟩)
  have HS := Lib.hid hs
  have HKS := Lib.hid hks
  have HLO : Hid (Ab V (w.heap.size + 2) l pl) := Lib.hid (by
    rw [hV]
    have := (Ab.new ((w.alloc (.cells (c.c A n) 25)).alloc (.cells (x.c p) 31)) l pl).on ((Below.refl _ _).alloc (Nat.le_refl _) (.cells zAt 31))
    simpa only [World.size_alloc, Nat.add_assoc] using this)
  have HLL := Lib.hid (hll.below S0.out.pb.be)
  have HLS := Lib.hid hls
  clear hll hls
  obtain ⟨X, hX⟩ : ∃ X, aclA c x k 2 l = X := ⟨_, rfl⟩
  obtain ⟨N, hN⟩ : ∃ N, aclN c x k 2 l = N := ⟨_, rfl⟩
  rw [hX, hN]
  have HX := Lib.hid hX
  have HN := Lib.hid hN
  clear h hc hs hks hX hN
  go_enter Try.func24, Try.ntmps24
  go_upto_region 1 with (fail)
  rw [← hV]
  clear hV
  go_wp2_with (first
  | (refine wpList_load_part rfl 25 (.tmp 5) rfl w.heap.size 0 rfl (Cr.c c A n).toList _ (S0.out.pb.cb).all Try.underlying25 rfl cred_size (Cr.v c A n) rfl ?_)
  | (refine wpList_load_part rfl 31 (.tmp 6) rfl (w.heap.size + 1) 0 rfl (At.c x p).toList _ (S0.out.pb.bt).bt0 Try.underlying31 rfl attr_size (At.v x p) rfl ?_))
  refine (rmayo_calls c A n x p V S0.out.pb.cl S0.out.pb.al HS.out HKS.out).mono ?_
  rintro e w1 ⟨rfl, hb⟩
  have S1 := Lib.hid (S0.out.on hb)
  have HLO1 := Lib.hid (HLO.out.on hb)
  have HLL1 := Lib.hid (HLL.out.below hb)
  clear hb S0 HLO HLL
  cases hv : validB c x
  case false =>
    have HNN : Hid (aclN c x k 2 l = 622) := Lib.hid (by unfold aclN; rw [hv]; rfl)
    clear hv
    have HNA : Hid (aclA c x k 2 l = atZ) := Lib.hid (by unfold aclA; rw [HNN.out]; rfl)
    have HA : Hid (X = atZ) := Lib.hid (by rw [← HX.out]; exact HNA.out)
    have HN2 : Hid (N = 622) := Lib.hid (by rw [← HN.out]; exact HNN.out)
    have hone : (zAt).all (·.oneCell') = true := by rw [← Array.all_toList]; rfl
    obtain ⟨Z, hZ⟩ : ∃ Z, Z = World.setRow w1 (w.heap.size + 3) zAt := ⟨_, rfl⟩
    have HR : Hid (Z.heap[(w.heap.size + 3)]? = some (.cells zAt 31 (0, 0))) := Lib.hid (by rw [hZ]; exact setRow_heap _ _ _ _ _ _ S1.out.rz)
    have HBZ : Hid (Below w.heap.size w Z) := Lib.hid (by rw [hZ]; exact below_setRow S1.out.pb.be S1.out.hr _)
    have HZZ := Lib.hid hZ
    clear hZ
    go_wp2_with (first
      | (refine wpList_buildTo rfl 31 #[] rfl (some 25) rfl zAt (by kernel_rfl) ?_)
      | (refine wpList_store_rowTo rfl 31 (.tmp 10) (.tmp 25) rfl rfl (w.heap.size + 3) zAt rfl rfl 31 _ S1.out.rz attr_size rfl hone ?_; rw [← HZZ.out]))
    exact bodyPost_ret (results_row_tmp rfl _ _ (w.heap.size + 3) 31 zAt (0, 0) _ (.int .i64 622) rfl HR.out rfl Try.underlying31 rfl attr_size) rfl ⟨alieZ, by rw [HA.out, HN2.out]; rfl, by rw [HA.out]; exact AOw.z _, HBZ.out⟩
  case true =>
  have HM := Lib.hid (valid_parts hv).2
  have HNV : Hid (aclN c x k 2 l = (if ownsB c x then (if decide (2 = 1) || decide (k = 2) then (if decide (2 = 3) || mayB l then 0 else 622) else 613) else 601)) := Lib.hid (by
    have h1 : aclN c x k 2 l = aclM c x k 2 l := by unfold aclN aclM; rw [hv]; rfl
    rw [h1]
    exact aclM_in (by omega))
  go_wp2_with (first
  | (refine wpList_load_part rfl 25 (.tmp 5) rfl w.heap.size 0 rfl (Cr.c c A n).toList _ (S1.out.pb.cb).all Try.underlying25 rfl cred_size (Cr.v c A n) rfl ?_)
  | (refine wpList_load_part rfl 31 (.tmp 6) rfl (w.heap.size + 1) 0 rfl (At.c x p).toList _ (S1.out.pb.bt).bt0 Try.underlying31 rfl attr_size (At.v x p) rfl ?_))
  refine (rownso_calls c A n x p w1 S1.out.pb.cl S1.out.pb.al HS.out HKS.out).mono ?_
  rintro e w2 ⟨rfl, hb⟩
  have S2 := Lib.hid (S1.out.on hb)
  have HLO2 := Lib.hid (HLO1.out.on hb)
  have HLL2 := Lib.hid (HLL1.out.below hb)
  clear hb S1 HLO1 HLL1
  rw [show ownB c x = ownsB c x by unfold ownB; rw [hv]; rfl]
  clear hv
  cases ho : ownsB c x
  case false =>
    have HNN : Hid (aclN c x k 2 l = 601) := Lib.hid (by rw [HNV.out, ho]; rfl)
    clear ho HNV
    have HNA : Hid (aclA c x k 2 l = atZ) := Lib.hid (by unfold aclA; rw [HNN.out]; rfl)
    have HA : Hid (X = atZ) := Lib.hid (by rw [← HX.out]; exact HNA.out)
    have HN2 : Hid (N = 601) := Lib.hid (by rw [← HN.out]; exact HNN.out)
    have hone : (zAt).all (·.oneCell') = true := by rw [← Array.all_toList]; rfl
    obtain ⟨Z, hZ⟩ : ∃ Z, Z = World.setRow w2 (w.heap.size + 3) zAt := ⟨_, rfl⟩
    have HR : Hid (Z.heap[(w.heap.size + 3)]? = some (.cells zAt 31 (0, 0))) := Lib.hid (by rw [hZ]; exact setRow_heap _ _ _ _ _ _ S2.out.rz)
    have HBZ : Hid (Below w.heap.size w Z) := Lib.hid (by rw [hZ]; exact below_setRow S2.out.pb.be S2.out.hr _)
    have HZZ := Lib.hid hZ
    clear hZ
    go_wp2_with (first
      | (refine wpList_buildTo rfl 31 #[] rfl (some 30) rfl zAt (by kernel_rfl) ?_)
      | (refine wpList_store_rowTo rfl 31 (.tmp 10) (.tmp 30) rfl rfl (w.heap.size + 3) zAt rfl rfl 31 _ S2.out.rz attr_size rfl hone ?_; rw [← HZZ.out]))
    exact bodyPost_ret (results_row_tmp rfl _ _ (w.heap.size + 3) 31 zAt (0, 0) _ (.int .i64 601) rfl HR.out rfl Try.underlying31 rfl attr_size) rfl ⟨alieZ, by rw [HA.out, HN2.out]; rfl, by rw [HA.out]; exact AOw.z _, HBZ.out⟩
  case true =>
  by_cases h2 : k = 2
  case neg =>
    have d2 : ((k : Int) != 2) = true := by rw [bne_iff_ne]; omega
    have HNN : Hid (aclN c x k 2 l = 613) := Lib.hid (by rw [HNV.out, ho, decide_eq_false h2]; rfl)
    clear ho h2 HNV
    have HNA : Hid (aclA c x k 2 l = atZ) := Lib.hid (by unfold aclA; rw [HNN.out]; rfl)
    have HA : Hid (X = atZ) := Lib.hid (by rw [← HX.out]; exact HNA.out)
    have HN2 : Hid (N = 613) := Lib.hid (by rw [← HN.out]; exact HNN.out)
    have hone : (zAt).all (·.oneCell') = true := by rw [← Array.all_toList]; rfl
    obtain ⟨Z, hZ⟩ : ∃ Z, Z = World.setRow w2 (w.heap.size + 3) zAt := ⟨_, rfl⟩
    have HR : Hid (Z.heap[(w.heap.size + 3)]? = some (.cells zAt 31 (0, 0))) := Lib.hid (by rw [hZ]; exact setRow_heap _ _ _ _ _ _ S2.out.rz)
    have HBZ : Hid (Below w.heap.size w Z) := Lib.hid (by rw [hZ]; exact below_setRow S2.out.pb.be S2.out.hr _)
    have HZZ := Lib.hid hZ
    clear hZ
    go_wp2_with (first
      | (refine wpList_buildTo rfl 31 #[] rfl (some 37) rfl zAt (by kernel_rfl) ?_)
      | (refine wpList_store_rowTo rfl 31 (.tmp 10) (.tmp 37) rfl rfl (w.heap.size + 3) zAt rfl rfl 31 _ S2.out.rz attr_size rfl hone ?_; rw [← HZZ.out]))
    exact bodyPost_ret (results_row_tmp rfl _ _ (w.heap.size + 3) 31 zAt (0, 0) _ (.int .i64 613) rfl HR.out rfl Try.underlying31 rfl attr_size) rfl ⟨alieZ, by rw [HA.out, HN2.out]; rfl, by rw [HA.out]; exact AOw.z _, HBZ.out⟩
  case pos =>
  have d2 : ((k : Int) != 2) = false := by rw [h2]; rfl
  have HNW : Hid (aclN c x k 2 l = (if mayB l then 0 else 622)) := Lib.hid (by rw [HNV.out, ho, decide_eq_true h2]; rfl)
  clear ho HNV h2
  go_wp2_with (refine wpList_load_part rfl 28 (.tmp 9) rfl (w.heap.size + 2) 0 rfl (Ac.c l pl).toList _ (HLO2.out.part) Try.underlying28 rfl acl_size (Ac.v l pl) rfl ?_)
  refine (rmay_calls l pl w2 HLL2.out HLS.out).mono ?_
  rintro e w4 ⟨rfl, hb⟩
  have S4 := Lib.hid (S2.out.on hb)
  have HLOX := Lib.hid (HLO2.out.on hb)
  have HLLX := Lib.hid (HLL2.out.below hb)
  clear hb S2 HLO2 HLL2
  cases hm : mayB l
  case false =>
    have HNN : Hid (aclN c x k 2 l = 622) := Lib.hid (by rw [HNW.out, hm]; rfl)
    clear hm HNW
    have HNA : Hid (aclA c x k 2 l = atZ) := Lib.hid (by unfold aclA; rw [HNN.out]; rfl)
    have HA : Hid (X = atZ) := Lib.hid (by rw [← HX.out]; exact HNA.out)
    have HN2 : Hid (N = 622) := Lib.hid (by rw [← HN.out]; exact HNN.out)
    have hone : (zAt).all (·.oneCell') = true := by rw [← Array.all_toList]; rfl
    obtain ⟨Z, hZ⟩ : ∃ Z, Z = World.setRow w4 (w.heap.size + 3) zAt := ⟨_, rfl⟩
    have HR : Hid (Z.heap[(w.heap.size + 3)]? = some (.cells zAt 31 (0, 0))) := Lib.hid (by rw [hZ]; exact setRow_heap _ _ _ _ _ _ S4.out.rz)
    have HBZ : Hid (Below w.heap.size w Z) := Lib.hid (by rw [hZ]; exact below_setRow S4.out.pb.be S4.out.hr _)
    have HZZ := Lib.hid hZ
    clear hZ
    go_wp2_with (first
      | (refine wpList_buildTo rfl 31 #[] rfl (some 45) rfl zAt (by kernel_rfl) ?_)
      | (refine wpList_store_rowTo rfl 31 (.tmp 10) (.tmp 45) rfl rfl (w.heap.size + 3) zAt rfl rfl 31 _ S4.out.rz attr_size rfl hone ?_; rw [← HZZ.out]))
    exact bodyPost_ret (results_row_tmp rfl _ _ (w.heap.size + 3) 31 zAt (0, 0) _ (.int .i64 622) rfl HR.out rfl Try.underlying31 rfl attr_size) rfl ⟨alieZ, by rw [HA.out, HN2.out]; rfl, by rw [HA.out]; exact AOw.z _, HBZ.out⟩
  case true =>
  have HNN : Hid (aclN c x k 2 l = 0) := Lib.hid (by rw [HNW.out, hm]; rfl)
  have HN2 : Hid (N = 0) := Lib.hid (by rw [← HN.out]; exact HNN.out)
  have HA0 : Hid (X = aclX c x k 2 l) := Lib.hid (by rw [← HX.out]; unfold aclA; rw [HNN.out]; rfl)
  clear hm HNW HN HX HNN
  go_wp2_with (refine wpList_load_part rfl 31 (.tmp 6) rfl (w.heap.size + 1) 0 rfl (At.c x p).toList _ (S4.out.pb.bt).bt0 Try.underlying31 rfl attr_size (At.v x p) rfl ?_)
  refine (racopy_calls x p w4 S4.out.pb.al HS.out).mono ?_
  rintro e w5 ⟨q, rfl, hC0, hb⟩
  have T1 := Lib.hid (S4.out.on hb)
  have HO := Lib.hid (AOw.of hC0)
  have HLO5 := Lib.hid (HLOX.out.on hb)
  have HLL5 := Lib.hid (HLLX.out.below hb)
  clear hb hC0 S4 HLOX HLLX
  obtain ⟨C, hC⟩ : ∃ C, C = At.c (x) q := ⟨_, rfl⟩
  have hone : C.all (·.oneCell') = true := by rw [hC]; exact c_one _ _
  have hsz : (Try.prog.info? 31).map (·.size) = some C.size := by rw [hC]; exact c_size _ _
  have hold : (zAt : Array Value).size = C.size := by rw [hC]; rfl
  have HZn := Lib.hid (heap_alloc_new w5 (.cells zAt 31))
  obtain ⟨U0, hU⟩ : ∃ Zz, Zz = (w5.alloc (.cells zAt 31)).setRow w5.heap.size C := ⟨_, rfl⟩
  obtain ⟨g0, hg⟩ : ∃ Zz, Zz = w5.heap.size := ⟨_, rfl⟩
  have S3 : Hid (Wl w5 U0 g0 (x) q) := Lib.hid (by rw [hU, hg, hC]; exact Wl.fresh HO.out)
  rw [show At.v (x) q = .agg C by rw [hC]]
  clear hC HO
  go_upto_region 10 with (refine wpList_store_rowTo rfl 31 (.tmp 12) (.tmp 47) rfl rfl w5.heap.size C rfl rfl 31 _ HZn.out hsz hold hone ?_; rw [← hU])
  clear hU HZn hsz hold hone
  rw [← hg]
  clear hg
  clear d2
  go_upto_region 17 with (fail)
  obtain ⟨U1, hU1⟩ : ∃ Zz, Zz = World.setRow U0 g0 (At.c (withDf x true x.df) q) := ⟨_, rfl⟩
  have S4 := Lib.hid (S3.out.put (S3.out.ow.dfl true S3.out.ow.df))
  rw [← hU1] at S4
  go_upto_region 18 with (refine wpList_store_part rfl 4 (.tmp 63) (.const (.bool true)) rfl rfl g0 10 [.bool true] rfl rfl 31 _ S3.out.bt bool_size (Nat.le_of_ble_eq_true rfl) (one_of rfl) (At.c (withDf x true x.df) q) rfl ?_; rw [← hU1])
  clear hU1 S3
  go_wp2_with (refine wpList_load_part rfl 28 (.tmp 9) rfl (w.heap.size + 2) 0 rfl (Ac.c l pl).toList _ ((HLO5.out.on S4.out.be).part) Try.underlying28 rfl acl_size (Ac.v l pl) rfl ?_)
  refine (rcopy_calls l pl U1 (HLL5.out.below S4.out.be) HLS.out).mono ?_
  rintro e w7 ⟨ql, rfl, hC, hb⟩
  have S7 := Lib.hid (S4.out.on hb)
  have HL := Lib.hid (LiesO.of hC)
  clear hb hC S4
  obtain ⟨U2, hU2⟩ : ∃ Zz, Zz = World.setRow w7 g0 (At.c (withDf x true l) ⟨q.p, ql, q.X, q.n⟩) := ⟨_, rfl⟩
  have S8 := Lib.hid (S7.out.put (y := withDf x true l) (q := ⟨q.p, ql, q.X, q.n⟩) (AOw.dfl (x := x) (p := q) ⟨S7.out.ow.ac, S7.out.ow.df, S7.out.ow.xs⟩ true HL.out))
  rw [← hU2] at S8
  have HU2 := Lib.hid hU2
  clear hU2
  go_upto_region 19 with (refine wpList_store_part rfl 28 (.tmp 66) (.tmp 65) rfl rfl g0 11 (Ac.c l ql).toList rfl rfl 31 _ S7.out.bt acl_size (Nat.le_of_ble_eq_true rfl) (acl_one _ _) (At.c (withDf x true l) ⟨q.p, ql, q.X, q.n⟩) rfl ?_; rw [← HU2.out])
  clear HU2 S7 HL
  have HY : Hid (X = withDf x true l) := Lib.hid HA0.out
  generalize withDf x true l = y at *
  obtain ⟨p2, hp2⟩ : ∃ p2 : ALie, ⟨q.p, ql, q.X, q.n⟩ = p2 := ⟨_, rfl⟩
  rw [hp2] at S8
  clear hp2
  have P8 := Lib.hid (T1.out.on S8.out.be)
  obtain ⟨C, hC⟩ : ∃ C, C = At.c (y) p2 := ⟨_, rfl⟩
  have hone : C.all (·.oneCell') = true := by rw [hC]; exact c_one _ _
  have hsz : (Try.prog.info? 31).map (·.size) = some C.size := by rw [hC]; exact c_size _ _
  have hold : (zAt : Array Value).size = C.size := by rw [hC]; rfl
  have HBT : Hid ((World.heap U2)[g0]? = some (.cells C 31 (0, 0))) := Lib.hid (by rw [hC]; exact S8.out.bt)
  obtain ⟨Z, hZ⟩ : ∃ Z, Z = World.setRow U2 (w.heap.size + 3) C := ⟨_, rfl⟩
  have HR : Hid (Z.heap[(w.heap.size + 3)]? = some (.cells C 31 (0, 0))) := Lib.hid (by rw [hZ]; exact setRow_heap _ _ _ _ _ _ P8.out.rz)
  have HOR := Lib.hid (S8.out.ow.turn P8.out.rz C)
  have HBR : Hid (Below w.heap.size w Z) := Lib.hid (by rw [hZ]; exact below_setRow P8.out.pb.be P8.out.hr _)
  rw [← hZ] at HOR
  have HC := Lib.hid hC
  have HZZ := Lib.hid hZ
  clear hC hZ
  go_wp2_with (first
    | (refine wpList_load_row rfl 31 (.tmp 12) rfl g0 rfl 31 C (0, 0) _ HBT.out Try.underlying31 rfl hsz ?_)
    | (refine wpList_store_rowTo rfl 31 (.tmp 10) (.tmp 67) rfl rfl (w.heap.size + 3) C rfl rfl 31 _ P8.out.rz hsz hold hone ?_; rw [← HZZ.out]))
  exact bodyPost_ret (results_row_tmp rfl _ _ (w.heap.size + 3) 31 C (0, 0) _ (.int .i64 0) rfl HR.out rfl Try.underlying31 rfl hsz) rfl ⟨p2, by rw [HC.out, HY.out, HN2.out], by rw [HY.out]; exact HOR.out, HBR.out⟩
set_option maxRecDepth 100000 in
set_option maxHeartbeats 8000000 in
theorem racl_3 (c : Cr) (A : Option Addr) (n : Nat) (x : At) (p : ALie) (k : Nat) (l : Ac) (pl : Lie) (w : World) (hc : CLies w c A) (h : ALies w x p) (hs : ASm x) (hks : Ks x) (hll : Lies w l pl) (hls : Sm l) :
    Calls Try.prog 24 #[c.v A n, x.v p, .int .u8 (k : Nat), .int .u8 (3 : Nat), l.v pl] w fun e w' => ∃ q, e = .returned (.tuple #[At.v (aclA c x k 3 l) q, .int .i64 (aclN c x k 3 l)]) ∧ AOw w' (aclA c x k 3 l) q ∧ Below w.heap.size w w' := by
  obtain ⟨V, hV⟩ : ∃ V, V = (((w.alloc (.cells (c.c A n) 25)).alloc (.cells (x.c p) 31)).alloc (.cells (l.c pl) 28)).alloc (.cells zAt 31) := ⟨_, rfl⟩
  have S0 : Hid (Pz w V c A n x p (w.heap.size + 3)) := Lib.hid (by rw [hV]; exact ⟨((Pb.start hc h).one _).one _, (by
    have := heap_alloc_new (((w.alloc (.cells (c.c A n) 25)).alloc (.cells (x.c p) 31)).alloc (.cells (l.c pl) 28)) (.cells zAt 31)
    simpa only [World.size_alloc, Nat.add_assoc] using this), by omega⟩)
  have HS := Lib.hid hs
  have HKS := Lib.hid hks
  have HLO : Hid (Ab V (w.heap.size + 2) l pl) := Lib.hid (by
    rw [hV]
    have := (Ab.new ((w.alloc (.cells (c.c A n) 25)).alloc (.cells (x.c p) 31)) l pl).on ((Below.refl _ _).alloc (Nat.le_refl _) (.cells zAt 31))
    simpa only [World.size_alloc, Nat.add_assoc] using this)
  have HLL := Lib.hid (hll.below S0.out.pb.be)
  have HLS := Lib.hid hls
  clear hll hls
  obtain ⟨X, hX⟩ : ∃ X, aclA c x k 3 l = X := ⟨_, rfl⟩
  obtain ⟨N, hN⟩ : ∃ N, aclN c x k 3 l = N := ⟨_, rfl⟩
  rw [hX, hN]
  have HX := Lib.hid hX
  have HN := Lib.hid hN
  clear h hc hs hks hX hN
  go_enter Try.func24, Try.ntmps24
  go_upto_region 1 with (fail)
  rw [← hV]
  clear hV
  go_wp2_with (first
  | (refine wpList_load_part rfl 25 (.tmp 5) rfl w.heap.size 0 rfl (Cr.c c A n).toList _ (S0.out.pb.cb).all Try.underlying25 rfl cred_size (Cr.v c A n) rfl ?_)
  | (refine wpList_load_part rfl 31 (.tmp 6) rfl (w.heap.size + 1) 0 rfl (At.c x p).toList _ (S0.out.pb.bt).bt0 Try.underlying31 rfl attr_size (At.v x p) rfl ?_))
  refine (rmayo_calls c A n x p V S0.out.pb.cl S0.out.pb.al HS.out HKS.out).mono ?_
  rintro e w1 ⟨rfl, hb⟩
  have S1 := Lib.hid (S0.out.on hb)
  have HLO1 := Lib.hid (HLO.out.on hb)
  have HLL1 := Lib.hid (HLL.out.below hb)
  clear hb S0 HLO HLL
  cases hv : validB c x
  case false =>
    have HNN : Hid (aclN c x k 3 l = 622) := Lib.hid (by unfold aclN; rw [hv]; rfl)
    clear hv
    have HNA : Hid (aclA c x k 3 l = atZ) := Lib.hid (by unfold aclA; rw [HNN.out]; rfl)
    have HA : Hid (X = atZ) := Lib.hid (by rw [← HX.out]; exact HNA.out)
    have HN2 : Hid (N = 622) := Lib.hid (by rw [← HN.out]; exact HNN.out)
    have hone : (zAt).all (·.oneCell') = true := by rw [← Array.all_toList]; rfl
    obtain ⟨Z, hZ⟩ : ∃ Z, Z = World.setRow w1 (w.heap.size + 3) zAt := ⟨_, rfl⟩
    have HR : Hid (Z.heap[(w.heap.size + 3)]? = some (.cells zAt 31 (0, 0))) := Lib.hid (by rw [hZ]; exact setRow_heap _ _ _ _ _ _ S1.out.rz)
    have HBZ : Hid (Below w.heap.size w Z) := Lib.hid (by rw [hZ]; exact below_setRow S1.out.pb.be S1.out.hr _)
    have HZZ := Lib.hid hZ
    clear hZ
    go_wp2_with (first
      | (refine wpList_buildTo rfl 31 #[] rfl (some 25) rfl zAt (by kernel_rfl) ?_)
      | (refine wpList_store_rowTo rfl 31 (.tmp 10) (.tmp 25) rfl rfl (w.heap.size + 3) zAt rfl rfl 31 _ S1.out.rz attr_size rfl hone ?_; rw [← HZZ.out]))
    exact bodyPost_ret (results_row_tmp rfl _ _ (w.heap.size + 3) 31 zAt (0, 0) _ (.int .i64 622) rfl HR.out rfl Try.underlying31 rfl attr_size) rfl ⟨alieZ, by rw [HA.out, HN2.out]; rfl, by rw [HA.out]; exact AOw.z _, HBZ.out⟩
  case true =>
  have HM := Lib.hid (valid_parts hv).2
  have HNV : Hid (aclN c x k 3 l = (if ownsB c x then (if decide (3 = 1) || decide (k = 2) then (if decide (3 = 3) || mayB l then 0 else 622) else 613) else 601)) := Lib.hid (by
    have h1 : aclN c x k 3 l = aclM c x k 3 l := by unfold aclN aclM; rw [hv]; rfl
    rw [h1]
    exact aclM_in (by omega))
  go_wp2_with (first
  | (refine wpList_load_part rfl 25 (.tmp 5) rfl w.heap.size 0 rfl (Cr.c c A n).toList _ (S1.out.pb.cb).all Try.underlying25 rfl cred_size (Cr.v c A n) rfl ?_)
  | (refine wpList_load_part rfl 31 (.tmp 6) rfl (w.heap.size + 1) 0 rfl (At.c x p).toList _ (S1.out.pb.bt).bt0 Try.underlying31 rfl attr_size (At.v x p) rfl ?_))
  refine (rownso_calls c A n x p w1 S1.out.pb.cl S1.out.pb.al HS.out HKS.out).mono ?_
  rintro e w2 ⟨rfl, hb⟩
  have S2 := Lib.hid (S1.out.on hb)
  have HLO2 := Lib.hid (HLO1.out.on hb)
  have HLL2 := Lib.hid (HLL1.out.below hb)
  clear hb S1 HLO1 HLL1
  rw [show ownB c x = ownsB c x by unfold ownB; rw [hv]; rfl]
  clear hv
  cases ho : ownsB c x
  case false =>
    have HNN : Hid (aclN c x k 3 l = 601) := Lib.hid (by rw [HNV.out, ho]; rfl)
    clear ho HNV
    have HNA : Hid (aclA c x k 3 l = atZ) := Lib.hid (by unfold aclA; rw [HNN.out]; rfl)
    have HA : Hid (X = atZ) := Lib.hid (by rw [← HX.out]; exact HNA.out)
    have HN2 : Hid (N = 601) := Lib.hid (by rw [← HN.out]; exact HNN.out)
    have hone : (zAt).all (·.oneCell') = true := by rw [← Array.all_toList]; rfl
    obtain ⟨Z, hZ⟩ : ∃ Z, Z = World.setRow w2 (w.heap.size + 3) zAt := ⟨_, rfl⟩
    have HR : Hid (Z.heap[(w.heap.size + 3)]? = some (.cells zAt 31 (0, 0))) := Lib.hid (by rw [hZ]; exact setRow_heap _ _ _ _ _ _ S2.out.rz)
    have HBZ : Hid (Below w.heap.size w Z) := Lib.hid (by rw [hZ]; exact below_setRow S2.out.pb.be S2.out.hr _)
    have HZZ := Lib.hid hZ
    clear hZ
    go_wp2_with (first
      | (refine wpList_buildTo rfl 31 #[] rfl (some 30) rfl zAt (by kernel_rfl) ?_)
      | (refine wpList_store_rowTo rfl 31 (.tmp 10) (.tmp 30) rfl rfl (w.heap.size + 3) zAt rfl rfl 31 _ S2.out.rz attr_size rfl hone ?_; rw [← HZZ.out]))
    exact bodyPost_ret (results_row_tmp rfl _ _ (w.heap.size + 3) 31 zAt (0, 0) _ (.int .i64 601) rfl HR.out rfl Try.underlying31 rfl attr_size) rfl ⟨alieZ, by rw [HA.out, HN2.out]; rfl, by rw [HA.out]; exact AOw.z _, HBZ.out⟩
  case true =>
  by_cases h2 : k = 2
  case neg =>
    have d2 : ((k : Int) != 2) = true := by rw [bne_iff_ne]; omega
    have HNN : Hid (aclN c x k 3 l = 613) := Lib.hid (by rw [HNV.out, ho, decide_eq_false h2]; rfl)
    clear ho h2 HNV
    have HNA : Hid (aclA c x k 3 l = atZ) := Lib.hid (by unfold aclA; rw [HNN.out]; rfl)
    have HA : Hid (X = atZ) := Lib.hid (by rw [← HX.out]; exact HNA.out)
    have HN2 : Hid (N = 613) := Lib.hid (by rw [← HN.out]; exact HNN.out)
    have hone : (zAt).all (·.oneCell') = true := by rw [← Array.all_toList]; rfl
    obtain ⟨Z, hZ⟩ : ∃ Z, Z = World.setRow w2 (w.heap.size + 3) zAt := ⟨_, rfl⟩
    have HR : Hid (Z.heap[(w.heap.size + 3)]? = some (.cells zAt 31 (0, 0))) := Lib.hid (by rw [hZ]; exact setRow_heap _ _ _ _ _ _ S2.out.rz)
    have HBZ : Hid (Below w.heap.size w Z) := Lib.hid (by rw [hZ]; exact below_setRow S2.out.pb.be S2.out.hr _)
    have HZZ := Lib.hid hZ
    clear hZ
    go_wp2_with (first
      | (refine wpList_buildTo rfl 31 #[] rfl (some 37) rfl zAt (by kernel_rfl) ?_)
      | (refine wpList_store_rowTo rfl 31 (.tmp 10) (.tmp 37) rfl rfl (w.heap.size + 3) zAt rfl rfl 31 _ S2.out.rz attr_size rfl hone ?_; rw [← HZZ.out]))
    exact bodyPost_ret (results_row_tmp rfl _ _ (w.heap.size + 3) 31 zAt (0, 0) _ (.int .i64 613) rfl HR.out rfl Try.underlying31 rfl attr_size) rfl ⟨alieZ, by rw [HA.out, HN2.out]; rfl, by rw [HA.out]; exact AOw.z _, HBZ.out⟩
  case pos =>
  have d2 : ((k : Int) != 2) = false := by rw [h2]; rfl
  have HNN : Hid (aclN c x k 3 l = 0) := Lib.hid (by rw [HNV.out, ho, decide_eq_true h2]; rfl)
  have HN2 : Hid (N = 0) := Lib.hid (by rw [← HN.out]; exact HNN.out)
  have HA0 : Hid (X = aclX c x k 3 l) := Lib.hid (by rw [← HX.out]; unfold aclA; rw [HNN.out]; rfl)
  have HLOX := HLO2
  have HLLX := HLL2
  clear ho h2 HNV HN HX HNN HLO2 HLL2
  go_wp2_with (refine wpList_load_part rfl 31 (.tmp 6) rfl (w.heap.size + 1) 0 rfl (At.c x p).toList _ (S2.out.pb.bt).bt0 Try.underlying31 rfl attr_size (At.v x p) rfl ?_)
  refine (racopy_calls x p w2 S2.out.pb.al HS.out).mono ?_
  rintro e w5 ⟨q, rfl, hC0, hb⟩
  have T1 := Lib.hid (S2.out.on hb)
  have HO := Lib.hid (AOw.of hC0)
  have HLO5 := Lib.hid (HLOX.out.on hb)
  have HLL5 := Lib.hid (HLLX.out.below hb)
  clear hb hC0 S2 HLOX HLLX
  obtain ⟨C, hC⟩ : ∃ C, C = At.c (x) q := ⟨_, rfl⟩
  have hone : C.all (·.oneCell') = true := by rw [hC]; exact c_one _ _
  have hsz : (Try.prog.info? 31).map (·.size) = some C.size := by rw [hC]; exact c_size _ _
  have hold : (zAt : Array Value).size = C.size := by rw [hC]; rfl
  have HZn := Lib.hid (heap_alloc_new w5 (.cells zAt 31))
  obtain ⟨U0, hU⟩ : ∃ Zz, Zz = (w5.alloc (.cells zAt 31)).setRow w5.heap.size C := ⟨_, rfl⟩
  obtain ⟨g0, hg⟩ : ∃ Zz, Zz = w5.heap.size := ⟨_, rfl⟩
  have S3 : Hid (Wl w5 U0 g0 (x) q) := Lib.hid (by rw [hU, hg, hC]; exact Wl.fresh HO.out)
  rw [show At.v (x) q = .agg C by rw [hC]]
  clear hC HO
  go_upto_region 10 with (refine wpList_store_rowTo rfl 31 (.tmp 12) (.tmp 47) rfl rfl w5.heap.size C rfl rfl 31 _ HZn.out hsz hold hone ?_; rw [← hU])
  clear hU HZn hsz hold hone
  rw [← hg]
  clear hg
  clear d2
  go_upto_region 11 with (fail)
  obtain ⟨U1, hU1⟩ : ∃ Zz, Zz = World.setRow U0 g0 (At.c (withDf x false x.df) q) := ⟨_, rfl⟩
  have S4 := Lib.hid (S3.out.put (S3.out.ow.dfl false S3.out.ow.df))
  rw [← hU1] at S4
  go_upto_region 12 with (refine wpList_store_part rfl 4 (.tmp 49) (.const (.bool false)) rfl rfl g0 10 [.bool false] rfl rfl 31 _ S3.out.bt bool_size (Nat.le_of_ble_eq_true rfl) (one_of rfl) (At.c (withDf x false x.df) q) rfl ?_; rw [← hU1])
  clear hU1 S3
  obtain ⟨U2, hU2⟩ : ∃ Zz, Zz = World.setRow U1 g0 (At.c (withDf x false acZ) ⟨q.p, lieZ, q.X, q.n⟩) := ⟨_, rfl⟩
  have S8 := Lib.hid (S4.out.put (y := withDf x false acZ) (q := ⟨q.p, lieZ, q.X, q.n⟩) (AOw.dfl (x := x) (p := q) ⟨S4.out.ow.ac, S4.out.ow.df, S4.out.ow.xs⟩ false (LiesO.z _)))
  rw [← hU2] at S8
  have HU2 := Lib.hid hU2
  clear hU2
  go_upto_region 19 with (first
    | (refine wpList_buildTo rfl 28 #[] rfl (some 50) rfl zC (by kernel_rfl) ?_)
    | (refine wpList_store_part rfl 28 (.tmp 51) (.tmp 50) rfl rfl g0 11 (Ac.c acZ lieZ).toList rfl rfl 31 _ S4.out.bt acl_size (Nat.le_of_ble_eq_true rfl) (acl_one _ _) (At.c (withDf x false acZ) ⟨q.p, lieZ, q.X, q.n⟩) rfl ?_; rw [← HU2.out]))
  clear HU2 S4
  have HY : Hid (X = withDf x false acZ) := Lib.hid HA0.out
  generalize withDf x false acZ = y at *
  obtain ⟨p2, hp2⟩ : ∃ p2 : ALie, ⟨q.p, lieZ, q.X, q.n⟩ = p2 := ⟨_, rfl⟩
  rw [hp2] at S8
  clear hp2
  have P8 := Lib.hid (T1.out.on S8.out.be)
  obtain ⟨C, hC⟩ : ∃ C, C = At.c (y) p2 := ⟨_, rfl⟩
  have hone : C.all (·.oneCell') = true := by rw [hC]; exact c_one _ _
  have hsz : (Try.prog.info? 31).map (·.size) = some C.size := by rw [hC]; exact c_size _ _
  have hold : (zAt : Array Value).size = C.size := by rw [hC]; rfl
  have HBT : Hid ((World.heap U2)[g0]? = some (.cells C 31 (0, 0))) := Lib.hid (by rw [hC]; exact S8.out.bt)
  obtain ⟨Z, hZ⟩ : ∃ Z, Z = World.setRow U2 (w.heap.size + 3) C := ⟨_, rfl⟩
  have HR : Hid (Z.heap[(w.heap.size + 3)]? = some (.cells C 31 (0, 0))) := Lib.hid (by rw [hZ]; exact setRow_heap _ _ _ _ _ _ P8.out.rz)
  have HOR := Lib.hid (S8.out.ow.turn P8.out.rz C)
  have HBR : Hid (Below w.heap.size w Z) := Lib.hid (by rw [hZ]; exact below_setRow P8.out.pb.be P8.out.hr _)
  rw [← hZ] at HOR
  have HC := Lib.hid hC
  have HZZ := Lib.hid hZ
  clear hC hZ
  go_wp2_with (first
    | (refine wpList_load_row rfl 31 (.tmp 12) rfl g0 rfl 31 C (0, 0) _ HBT.out Try.underlying31 rfl hsz ?_)
    | (refine wpList_store_rowTo rfl 31 (.tmp 10) (.tmp 67) rfl rfl (w.heap.size + 3) C rfl rfl 31 _ P8.out.rz hsz hold hone ?_; rw [← HZZ.out]))
  exact bodyPost_ret (results_row_tmp rfl _ _ (w.heap.size + 3) 31 C (0, 0) _ (.int .i64 0) rfl HR.out rfl Try.underlying31 rfl hsz) rfl ⟨p2, by rw [HC.out, HY.out, HN2.out], by rw [HY.out]; exact HOR.out, HBR.out⟩
theorem raclo_calls (c : Cr) (A : Option Addr) (n : Nat) (x : At) (p : ALie) (k wh : Nat) (l : Ac) (pl : Lie) (w : World) (hc : CLies w c A) (h : ALies w x p) (hs : ASm x) (hks : Ks x) (hll : Lies w l pl) (hls : Sm l) :
    Calls Try.prog 24 #[c.v A n, x.v p, .int .u8 (k : Nat), .int .u8 (wh : Nat), l.v pl] w fun e w' => ∃ q, e = .returned (.tuple #[At.v (aclA c x k wh l) q, .int .i64 (aclN c x k wh l)]) ∧ AOw w' (aclA c x k wh l) q ∧ Below w.heap.size w w' := by
  by_cases h0 : 1 ≤ wh ∧ wh ≤ 3
  · obtain rfl | rfl | rfl : wh = 1 ∨ wh = 2 ∨ wh = 3 := by omega
    · exact racl_1 c A n x p k l pl w hc h hs hks hll hls
    · exact racl_2 c A n x p k l pl w hc h hs hks hll hls
    · exact racl_3 c A n x p k l pl w hc h hs hks hll hls
  · exact racl_bad c A n x p k wh l pl w hc h hs hks hll hls h0
end Go.Proofs.Ytdioafoikcfhhaa
