/- The document's Chown: another user. -/
import Derived.Test.YtdioafoikcfhhaaOu
set_option linter.unusedSimpArgs false
set_option linter.unusedVariables false
set_option linter.unusedSimpArgs false
set_option linter.unusedVariables false
namespace Go.Proofs.Ytdioafoikcfhhaa
open Go.RowKit
set_option maxRecDepth 100000 in
set_option maxHeartbeats 8000000 in
theorem rchown_nm (c : Cr) (A : Option Addr) (n : Nat) (x : At) (p : ALie) (k : Nat) (U : Nat) (w : World) (hc : CLies w c A) (h : ALies w x p) (hs : ASm x) (hks : Ks x)  (hU : U ≤ 65535) (hxu : x.ui < 65536) :
    Calls Try.prog 14 #[c.v A n, x.v p, .int .u8 (k : Nat), .int .i64 (U : Nat), .int .i64 (-1)] w fun e w' => ∃ q, e = .returned (.tuple #[At.v (choA c x k (U : Nat) (-1)) q, .int .i64 (choN c x (U : Nat) (-1))]) ∧ AOw w' (choA c x k (U : Nat) (-1)) q ∧ Below w.heap.size w w' := by
  obtain ⟨V, hV⟩ : ∃ V, V = ((w.alloc (.cells (c.c A n) 25)).alloc (.cells (x.c p) 31)).alloc (.cells zAt 31) := ⟨_, rfl⟩
  have S0 : Hid (Pz w V c A n x p (w.heap.size + 2)) := Lib.hid (by rw [hV]; exact Pz.start hc h)
  have HS := Lib.hid hs
  have HKS := Lib.hid hks
  have hiu : idB ((U : Nat) : Int) = true := by unfold idB; rw [Bool.and_eq_true, decide_eq_true_eq, decide_eq_true_eq]; omega
  have hig : idB ((-1) : Int) = true := by decide
  have HBU : Hid (becN ((U : Nat) : Int) x.ui = U) := Lib.hid (by unfold becN; rw [if_neg (by omega)]; rfl)
  have HBG : Hid (becN ((-1) : Int) x.gi = x.gi) := Lib.hid (by rfl)
  have HNO : Hid (∀ r : Int, (if ownsB c x then (if leaveB c x ((U : Nat)) ((-1)) then (0 : Int) else 601) else 601) = r → validB c x = true → choN c x ((U : Nat)) ((-1)) = r) := Lib.hid (fun r hr hv => by unfold choN; first | (rw [hv, hiu, hig]; exact hr) | (rw [hv, hiu]; exact hr))
  clear hiu hig
  have wu : wrap64 (x.ui : Int) = (x.ui : Int) := by unfold wrap64; omega
  have du1 : decide ((U : Int) < -1) = false := by rw [decide_eq_false_iff_not]; omega
  have du2 : decide (65535 < (U : Int)) = false := by rw [decide_eq_false_iff_not]; omega
  have du3 : ((U : Int) != -1) = true := by rw [bne_iff_ne]; omega
  have du4 : (U : Int) % 65536 = (U : Int) := by omega
  obtain ⟨X, hX⟩ : ∃ X, choA c x k (U : Nat) (-1) = X := ⟨_, rfl⟩
  obtain ⟨N, hN⟩ : ∃ N, choN c x (U : Nat) (-1) = N := ⟨_, rfl⟩
  rw [hX, hN]
  have HX := Lib.hid hX
  have HN := Lib.hid hN
  clear h hc hs hks hX hN
  go_enter Try.func14, Try.ntmps14
  go_upto_region 1 with (fail)
  rw [← hV]
  clear hV
  go_wp2_with (first
  | (refine wpList_load_part rfl 25 (.tmp 5) rfl w.heap.size 0 rfl (Cr.c c A n).toList _ (S0.out.pb.cb).all Try.underlying25 rfl cred_size (Cr.v c A n) rfl ?_)
  | (refine wpList_load_part rfl 31 (.tmp 6) rfl (w.heap.size + 1) 0 rfl (At.c x p).toList _ (S0.out.pb.bt).bt0 Try.underlying31 rfl attr_size (At.v x p) rfl ?_))
  refine (rmayo_calls c A n x p V S0.out.pb.cl S0.out.pb.al HS.out HKS.out).mono ?_
  rintro e w1 ⟨rfl, hb⟩
  have S1 := Lib.hid (S0.out.on hb)
  clear hb S0
  cases hv : validB c x
  case false =>
    have HNN : Hid (choN c x (U : Nat) (-1) = 622) := Lib.hid (by unfold choN; rw [hv]; rfl)
    clear hv
    have HA : Hid (X = atZ) := Lib.hid (by rw [← HX.out]; unfold choA; rw [if_neg]; rw [HNN.out]; decide)
    have HN2 : Hid (N = 622) := Lib.hid (by rw [← HN.out]; exact HNN.out)
    have hone : (zAt).all (·.oneCell') = true := by rw [← Array.all_toList]; rfl
    obtain ⟨Z, hZ⟩ : ∃ Z, Z = World.setRow w1 (w.heap.size + 2) zAt := ⟨_, rfl⟩
    have HR : Hid (Z.heap[(w.heap.size + 2)]? = some (.cells zAt 31 (0, 0))) := Lib.hid (by rw [hZ]; exact setRow_heap _ _ _ _ _ _ S1.out.rz)
    have HBZ : Hid (Below w.heap.size w Z) := Lib.hid (by rw [hZ]; exact below_setRow S1.out.pb.be S1.out.hr _)
    have HZZ := Lib.hid hZ
    clear hZ
    go_wp2_with (first
      | (refine wpList_buildTo rfl 31 #[] rfl (some 33) rfl zAt (by kernel_rfl) ?_)
      | (refine wpList_store_rowTo rfl 31 (.tmp 10) (.tmp 33) rfl rfl (w.heap.size + 2) zAt rfl rfl 31 _ S1.out.rz attr_size rfl hone ?_; rw [← HZZ.out]))
    exact bodyPost_ret (results_row_tmp rfl _ _ (w.heap.size + 2) 31 zAt (0, 0) _ (.int .i64 622) rfl HR.out rfl Try.underlying31 rfl attr_size) rfl ⟨alieZ, by rw [HA.out, HN2.out]; rfl, by rw [HA.out]; exact AOw.z _, HBZ.out⟩
  case true =>
  have HM := Lib.hid (valid_parts hv).2
  have HNV := Lib.hid (fun r hr => HNO.out r hr hv)
  go_wp2_with (first
  | (refine wpList_load_part rfl 25 (.tmp 5) rfl w.heap.size 0 rfl (Cr.c c A n).toList _ (S1.out.pb.cb).all Try.underlying25 rfl cred_size (Cr.v c A n) rfl ?_)
  | (refine wpList_load_part rfl 31 (.tmp 6) rfl (w.heap.size + 1) 0 rfl (At.c x p).toList _ (S1.out.pb.bt).bt0 Try.underlying31 rfl attr_size (At.v x p) rfl ?_))
  refine (rownso_calls c A n x p w1 S1.out.pb.cl S1.out.pb.al HS.out HKS.out).mono ?_
  rintro e w2 ⟨rfl, hb⟩
  have S2 := Lib.hid (S1.out.on hb)
  clear hb S1
  rw [show ownB c x = ownsB c x by unfold ownB; rw [hv]; rfl]
  clear hv HNO
  cases ho : ownsB c x
  case false =>
    have HNN : Hid (choN c x (U : Nat) (-1) = 601) := Lib.hid (HNV.out 601 (by rw [ho]; rfl))
    clear ho
    have HA : Hid (X = atZ) := Lib.hid (by rw [← HX.out]; unfold choA; rw [if_neg]; rw [HNN.out]; decide)
    have HN2 : Hid (N = 601) := Lib.hid (by rw [← HN.out]; exact HNN.out)
    have hone : (zAt).all (·.oneCell') = true := by rw [← Array.all_toList]; rfl
    obtain ⟨Z, hZ⟩ : ∃ Z, Z = World.setRow w2 (w.heap.size + 2) zAt := ⟨_, rfl⟩
    have HR : Hid (Z.heap[(w.heap.size + 2)]? = some (.cells zAt 31 (0, 0))) := Lib.hid (by rw [hZ]; exact setRow_heap _ _ _ _ _ _ S2.out.rz)
    have HBZ : Hid (Below w.heap.size w Z) := Lib.hid (by rw [hZ]; exact below_setRow S2.out.pb.be S2.out.hr _)
    have HZZ := Lib.hid hZ
    clear hZ
    go_wp2_with (first
      | (refine wpList_buildTo rfl 31 #[] rfl (some 38) rfl zAt (by kernel_rfl) ?_)
      | (refine wpList_store_rowTo rfl 31 (.tmp 10) (.tmp 38) rfl rfl (w.heap.size + 2) zAt rfl rfl 31 _ S2.out.rz attr_size rfl hone ?_; rw [← HZZ.out]))
    exact bodyPost_ret (results_row_tmp rfl _ _ (w.heap.size + 2) 31 zAt (0, 0) _ (.int .i64 601) rfl HR.out rfl Try.underlying31 rfl attr_size) rfl ⟨alieZ, by rw [HA.out, HN2.out]; rfl, by rw [HA.out]; exact AOw.z _, HBZ.out⟩
  case true =>
  have HNW : Hid (∀ r : Int, (if leaveB c x (U : Nat) (-1) then (0 : Int) else 601) = r → choN c x (U : Nat) (-1) = r) := Lib.hid (fun r hr => HNV.out r (by rw [ho]; exact hr))
  clear ho HNV
  obtain ⟨z, hz⟩ : ∃ z, c.ui = z := ⟨_, rfl⟩
  have HLV : Hid (leaveB c x (U : Nat) (-1) = (decide (z = 0) || (decide (U = x.ui) && (decide (x.gi = x.gi) || inB c (x.gi))))) := Lib.hid (by unfold leaveB; rw [HBU.out, HBG.out, hz])
  have yc0 := S2.out.pb.cb.c0
  rw [hz] at yc0
  have y1 := S2.out.pb.bt.c1
  have y2 := S2.out.pb.bt.c2
  have OK : Hid (leaveB c x (U : Nat) (-1) = true → choN c x (U : Nat) (-1) = 0 ∧ choA c x k (U : Nat) (-1) = choX x k (U : Nat) (-1)) := Lib.hid (fun h => by
    have h0 := HNW.out 0 (by rw [h]; rfl)
    exact ⟨h0, by unfold choA; rw [if_pos h0]⟩)
  clear hz
  by_cases h0 : z = 0
  case pos =>
    have d0 : ((z : Int) != 0) = false := by rw [h0]; rfl
    have hl : leaveB c x (U : Nat) (-1) = true := by rw [HLV.out, decide_eq_true h0]; rfl
    have HN2 : Hid (N = 0) := Lib.hid (by rw [← HN.out]; exact (OK.out hl).1)
    have HA0 : Hid (X = choX x k (U : Nat) (-1)) := Lib.hid (by rw [← HX.out]; exact (OK.out hl).2)
    clear h0 hl HLV HNW OK HX HN
    go_wp2_with (refine wpList_load_part rfl 31 (.tmp 6) rfl (w.heap.size + 1) 0 rfl (At.c x p).toList _ (S2.out.pb.bt).bt0 Try.underlying31 rfl attr_size (At.v x p) rfl ?_)
    refine (racopy_calls x p w2 S2.out.pb.al HS.out).mono ?_
    rintro e w3 ⟨q, rfl, hC0, hb⟩
    have T1 := Lib.hid (S2.out.on hb)
    have HO := Lib.hid (AOw.of hC0)
    clear hb hC0 S2
    obtain ⟨C, hC⟩ : ∃ C, C = At.c (x) q := ⟨_, rfl⟩
    have hone : C.all (·.oneCell') = true := by rw [hC]; exact c_one _ _
    have hsz : (Try.prog.info? 31).map (·.size) = some C.size := by rw [hC]; exact c_size _ _
    have hold : (zAt : Array Value).size = C.size := by rw [hC]; rfl
    have HZn := Lib.hid (heap_alloc_new w3 (.cells zAt 31))
    obtain ⟨U0, hU⟩ : ∃ Zz, Zz = (w3.alloc (.cells zAt 31)).setRow w3.heap.size C := ⟨_, rfl⟩
    obtain ⟨g0, hg⟩ : ∃ Zz, Zz = w3.heap.size := ⟨_, rfl⟩
    have S3 : Hid (Wl w3 U0 g0 (x) q) := Lib.hid (by rw [hU, hg, hC]; exact Wl.fresh HO.out)
    rw [show At.v (x) q = .agg C by rw [hC]]
    clear hC HO
    go_upto_region 11 with (refine wpList_store_rowTo rfl 31 (.tmp 12) (.tmp 70) rfl rfl w3.heap.size C rfl rfl 31 _ HZn.out hsz hold hone ?_; rw [← hU])
    clear hU HZn hsz hold hone
    rw [← hg]
    clear hg
    obtain ⟨Y1, hY1⟩ : ∃ Zz, Zz = World.setRow U0 g0 (At.c (withId x U x.gi) q) := ⟨_, rfl⟩
    have S4 := Lib.hid (S3.out.put (y := withId x U x.gi) (q := q) (S3.out.ow.id U x.gi))
    rw [← hY1] at S4
    have HY1 := Lib.hid hY1
    clear hY1
    go_upto_region 15 with (first
      | (refine wpList_store_part rfl 22 (.tmp 75) (.tmp 74) rfl rfl g0 1 [.int .u16 (U : Nat)] rfl rfl 31 _ S3.out.bt u16_size (Nat.le_of_ble_eq_true rfl) (one_of rfl) (At.c (withId x U x.gi) q) rfl ?_; rw [← HY1.out]))
    clear HY1 S3
    have HM2 : Hid (amayB (withId x U x.gi) = true) := Lib.hid (may_withId HM.out _ _)
    have HCX : Hid (choX x k (U : Nat) (-1) = if k = 1 then goesA (withId x U x.gi) else withId x U x.gi) := Lib.hid (by unfold choX; rw [HBU.out, HBG.out])
    generalize hyy : withId x U x.gi = y at *
    have HYY := Lib.hid hyy
    clear hyy
    by_cases hk : k = 1
    case pos =>
      have dk : ((k : Int) == 1) = true := by rw [hk]; rfl
      have HA : Hid (X = goesA y) := Lib.hid (by rw [HA0.out, HCX.out, if_pos hk])
      clear hk
      go_wp2_with (refine wpList_load_part rfl 31 (.tmp 12) rfl g0 0 rfl (At.c y q).toList _ (S4.out.bt).bt0 Try.underlying31 rfl attr_size (At.v y q) rfl ?_)
      refine (rgoes_calls y q Y1 S4.out.ow.lies (asm_of HM2.out) (nb_may (amay_parts HM2.out).2.1) (by have := may8 HM2.out; omega)).mono ?_
      rintro e w7 ⟨q7, rfl, how, hb⟩
      have S7 := Lib.hid (S4.out.on hb)
      have HO := Lib.hid how
      clear hb how S4 dk
      obtain ⟨C, hC⟩ : ∃ C, C = At.c (goesA y) q7 := ⟨_, rfl⟩
      have hone : C.all (·.oneCell') = true := by rw [hC]; exact c_one _ _
      have hsz : (Try.prog.info? 31).map (·.size) = some C.size := by rw [hC]; exact c_size _ _
      have hold : (At.c y q).size = C.size := by rw [hC]; rfl
      have HBV : Hid (w7.heap[g0]? = some (.cells (At.c y q) 31 (0, 0))) := Lib.hid S7.out.bt
      obtain ⟨Y8, hY8⟩ : ∃ Zz, Zz = World.setRow w7 g0 C := ⟨_, rfl⟩
      have S8 : Hid (Wl w3 Y8 g0 (goesA y) q7) := Lib.hid (by rw [hY8, hC]; exact S7.out.put HO.out)
      rw [show At.v (goesA y) q7 = .agg C by rw [hC]]
      clear hC
      go_upto_region 17 with (refine wpList_store_rowTo rfl 31 (.tmp 12) (.tmp 84) rfl rfl g0 C rfl rfl 31 _ HBV.out hsz hold hone ?_; rw [← hY8])
      clear hY8 hone hsz hold HBV S7 HO
      have P8 := Lib.hid (T1.out.on S8.out.be)
      obtain ⟨C, hC⟩ : ∃ C, C = At.c (goesA y) q7 := ⟨_, rfl⟩
      have hone : C.all (·.oneCell') = true := by rw [hC]; exact c_one _ _
      have hsz : (Try.prog.info? 31).map (·.size) = some C.size := by rw [hC]; exact c_size _ _
      have hold : (zAt : Array Value).size = C.size := by rw [hC]; rfl
      have HBT : Hid ((World.heap Y8)[g0]? = some (.cells C 31 (0, 0))) := Lib.hid (by rw [hC]; exact S8.out.bt)
      obtain ⟨Z, hZ⟩ : ∃ Z, Z = World.setRow Y8 (w.heap.size + 2) C := ⟨_, rfl⟩
      have HR : Hid (Z.heap[(w.heap.size + 2)]? = some (.cells C 31 (0, 0))) := Lib.hid (by rw [hZ]; exact setRow_heap _ _ _ _ _ _ P8.out.rz)
      have HOR := Lib.hid (S8.out.ow.turn P8.out.rz C)
      have HBR : Hid (Below w.heap.size w Z) := Lib.hid (by rw [hZ]; exact below_setRow P8.out.pb.be P8.out.hr _)
      rw [← hZ] at HOR
      have HC := Lib.hid hC
      have HZZ := Lib.hid hZ
      clear hC hZ
      go_wp2_with (first
        | (refine wpList_load_row rfl 31 (.tmp 12) rfl g0 rfl 31 C (0, 0) _ HBT.out Try.underlying31 rfl hsz ?_)
        | (refine wpList_store_rowTo rfl 31 (.tmp 10) (.tmp 85) rfl rfl (w.heap.size + 2) C rfl rfl 31 _ P8.out.rz hsz hold hone ?_; rw [← HZZ.out]))
      exact bodyPost_ret (results_row_tmp rfl _ _ (w.heap.size + 2) 31 C (0, 0) _ (.int .i64 0) rfl HR.out rfl Try.underlying31 rfl hsz) rfl ⟨q7, by rw [HC.out, HA.out, HN2.out], by rw [HA.out]; exact HOR.out, HBR.out⟩
    case neg =>
      have dk : ((k : Int) == 1) = false := by rw [beq_eq_false_iff_ne]; omega
      have HA : Hid (X = y) := Lib.hid (by rw [HA0.out, HCX.out, if_neg hk])
      clear hk
      go_upto_region 17 with (fail)
      clear dk
      have P8 := Lib.hid (T1.out.on S4.out.be)
      obtain ⟨C, hC⟩ : ∃ C, C = At.c (y) q := ⟨_, rfl⟩
      have hone : C.all (·.oneCell') = true := by rw [hC]; exact c_one _ _
      have hsz : (Try.prog.info? 31).map (·.size) = some C.size := by rw [hC]; exact c_size _ _
      have hold : (zAt : Array Value).size = C.size := by rw [hC]; rfl
      have HBT : Hid ((World.heap Y1)[g0]? = some (.cells C 31 (0, 0))) := Lib.hid (by rw [hC]; exact S4.out.bt)
      obtain ⟨Z, hZ⟩ : ∃ Z, Z = World.setRow Y1 (w.heap.size + 2) C := ⟨_, rfl⟩
      have HR : Hid (Z.heap[(w.heap.size + 2)]? = some (.cells C 31 (0, 0))) := Lib.hid (by rw [hZ]; exact setRow_heap _ _ _ _ _ _ P8.out.rz)
      have HOR := Lib.hid (S4.out.ow.turn P8.out.rz C)
      have HBR : Hid (Below w.heap.size w Z) := Lib.hid (by rw [hZ]; exact below_setRow P8.out.pb.be P8.out.hr _)
      rw [← hZ] at HOR
      have HC := Lib.hid hC
      have HZZ := Lib.hid hZ
      clear hC hZ
      go_wp2_with (first
        | (refine wpList_load_row rfl 31 (.tmp 12) rfl g0 rfl 31 C (0, 0) _ HBT.out Try.underlying31 rfl hsz ?_)
        | (refine wpList_store_rowTo rfl 31 (.tmp 10) (.tmp 85) rfl rfl (w.heap.size + 2) C rfl rfl 31 _ P8.out.rz hsz hold hone ?_; rw [← HZZ.out]))
      exact bodyPost_ret (results_row_tmp rfl _ _ (w.heap.size + 2) 31 C (0, 0) _ (.int .i64 0) rfl HR.out rfl Try.underlying31 rfl hsz) rfl ⟨q, by rw [HC.out, HA.out, HN2.out], by rw [HA.out]; exact HOR.out, HBR.out⟩
  case neg =>
  have d0 : ((z : Int) != 0) = true := by rw [bne_iff_ne]; omega
  by_cases h1 : U = x.ui
  case neg =>
    have d1 : ((U : Int) != (x.ui : Int)) = true := by rw [bne_iff_ne]; omega
    have HNN : Hid (choN c x (U : Nat) (-1) = 601) := Lib.hid (HNW.out 601 (by rw [HLV.out, decide_eq_false h0, decide_eq_false h1]; rfl))
    clear h0 h1 HLV HNW OK
    have HA : Hid (X = atZ) := Lib.hid (by rw [← HX.out]; unfold choA; rw [if_neg]; rw [HNN.out]; decide)
    have HN2 : Hid (N = 601) := Lib.hid (by rw [← HN.out]; exact HNN.out)
    have hone : (zAt).all (·.oneCell') = true := by rw [← Array.all_toList]; rfl
    obtain ⟨Z, hZ⟩ : ∃ Z, Z = World.setRow w2 (w.heap.size + 2) zAt := ⟨_, rfl⟩
    have HR : Hid (Z.heap[(w.heap.size + 2)]? = some (.cells zAt 31 (0, 0))) := Lib.hid (by rw [hZ]; exact setRow_heap _ _ _ _ _ _ S2.out.rz)
    have HBZ : Hid (Below w.heap.size w Z) := Lib.hid (by rw [hZ]; exact below_setRow S2.out.pb.be S2.out.hr _)
    have HZZ := Lib.hid hZ
    clear hZ
    go_wp2_with (first
      | (refine wpList_buildTo rfl 31 #[] rfl (some 51) rfl zAt (by kernel_rfl) ?_)
      | (refine wpList_store_rowTo rfl 31 (.tmp 10) (.tmp 51) rfl rfl (w.heap.size + 2) zAt rfl rfl 31 _ S2.out.rz attr_size rfl hone ?_; rw [← HZZ.out]))
    exact bodyPost_ret (results_row_tmp rfl _ _ (w.heap.size + 2) 31 zAt (0, 0) _ (.int .i64 601) rfl HR.out rfl Try.underlying31 rfl attr_size) rfl ⟨alieZ, by rw [HA.out, HN2.out]; rfl, by rw [HA.out]; exact AOw.z _, HBZ.out⟩
  case pos =>
  have d1 : ((U : Int) != (x.ui : Int)) = false := by rw [bne_eq_false_iff_eq]; omega
  have HLV2 : Hid (leaveB c x (U : Nat) (-1) = (decide (x.gi = x.gi) || inB c (x.gi))) := Lib.hid (by rw [HLV.out, decide_eq_false h0, decide_eq_true h1]; rfl)
  clear h0 h1 HLV
  have hl : leaveB c x (U : Nat) (-1) = true := by rw [HLV2.out, decide_eq_true rfl]; rfl
  have HN2 : Hid (N = 0) := Lib.hid (by rw [← HN.out]; exact (OK.out hl).1)
  have HA0 : Hid (X = choX x k (U : Nat) (-1)) := Lib.hid (by rw [← HX.out]; exact (OK.out hl).2)
  clear hl HLV2 HNW OK HX HN
  go_wp2_with (refine wpList_load_part rfl 31 (.tmp 6) rfl (w.heap.size + 1) 0 rfl (At.c x p).toList _ (S2.out.pb.bt).bt0 Try.underlying31 rfl attr_size (At.v x p) rfl ?_)
  refine (racopy_calls x p w2 S2.out.pb.al HS.out).mono ?_
  rintro e w3 ⟨q, rfl, hC0, hb⟩
  have T1 := Lib.hid (S2.out.on hb)
  have HO := Lib.hid (AOw.of hC0)
  clear hb hC0 S2
  obtain ⟨C, hC⟩ : ∃ C, C = At.c (x) q := ⟨_, rfl⟩
  have hone : C.all (·.oneCell') = true := by rw [hC]; exact c_one _ _
  have hsz : (Try.prog.info? 31).map (·.size) = some C.size := by rw [hC]; exact c_size _ _
  have hold : (zAt : Array Value).size = C.size := by rw [hC]; rfl
  have HZn := Lib.hid (heap_alloc_new w3 (.cells zAt 31))
  obtain ⟨U0, hU⟩ : ∃ Zz, Zz = (w3.alloc (.cells zAt 31)).setRow w3.heap.size C := ⟨_, rfl⟩
  obtain ⟨g0, hg⟩ : ∃ Zz, Zz = w3.heap.size := ⟨_, rfl⟩
  have S3 : Hid (Wl w3 U0 g0 (x) q) := Lib.hid (by rw [hU, hg, hC]; exact Wl.fresh HO.out)
  rw [show At.v (x) q = .agg C by rw [hC]]
  clear hC HO
  go_upto_region 11 with (refine wpList_store_rowTo rfl 31 (.tmp 12) (.tmp 70) rfl rfl w3.heap.size C rfl rfl 31 _ HZn.out hsz hold hone ?_; rw [← hU])
  clear hU HZn hsz hold hone
  rw [← hg]
  clear hg
  obtain ⟨Y1, hY1⟩ : ∃ Zz, Zz = World.setRow U0 g0 (At.c (withId x U x.gi) q) := ⟨_, rfl⟩
  have S4 := Lib.hid (S3.out.put (y := withId x U x.gi) (q := q) (S3.out.ow.id U x.gi))
  rw [← hY1] at S4
  have HY1 := Lib.hid hY1
  clear hY1
  go_upto_region 15 with (first
    | (refine wpList_store_part rfl 22 (.tmp 75) (.tmp 74) rfl rfl g0 1 [.int .u16 (U : Nat)] rfl rfl 31 _ S3.out.bt u16_size (Nat.le_of_ble_eq_true rfl) (one_of rfl) (At.c (withId x U x.gi) q) rfl ?_; rw [← HY1.out]))
  clear HY1 S3
  have HM2 : Hid (amayB (withId x U x.gi) = true) := Lib.hid (may_withId HM.out _ _)
  have HCX : Hid (choX x k (U : Nat) (-1) = if k = 1 then goesA (withId x U x.gi) else withId x U x.gi) := Lib.hid (by unfold choX; rw [HBU.out, HBG.out])
  generalize hyy : withId x U x.gi = y at *
  have HYY := Lib.hid hyy
  clear hyy
  by_cases hk : k = 1
  case pos =>
    have dk : ((k : Int) == 1) = true := by rw [hk]; rfl
    have HA : Hid (X = goesA y) := Lib.hid (by rw [HA0.out, HCX.out, if_pos hk])
    clear hk
    go_wp2_with (refine wpList_load_part rfl 31 (.tmp 12) rfl g0 0 rfl (At.c y q).toList _ (S4.out.bt).bt0 Try.underlying31 rfl attr_size (At.v y q) rfl ?_)
    refine (rgoes_calls y q Y1 S4.out.ow.lies (asm_of HM2.out) (nb_may (amay_parts HM2.out).2.1) (by have := may8 HM2.out; omega)).mono ?_
    rintro e w7 ⟨q7, rfl, how, hb⟩
    have S7 := Lib.hid (S4.out.on hb)
    have HO := Lib.hid how
    clear hb how S4 dk
    obtain ⟨C, hC⟩ : ∃ C, C = At.c (goesA y) q7 := ⟨_, rfl⟩
    have hone : C.all (·.oneCell') = true := by rw [hC]; exact c_one _ _
    have hsz : (Try.prog.info? 31).map (·.size) = some C.size := by rw [hC]; exact c_size _ _
    have hold : (At.c y q).size = C.size := by rw [hC]; rfl
    have HBV : Hid (w7.heap[g0]? = some (.cells (At.c y q) 31 (0, 0))) := Lib.hid S7.out.bt
    obtain ⟨Y8, hY8⟩ : ∃ Zz, Zz = World.setRow w7 g0 C := ⟨_, rfl⟩
    have S8 : Hid (Wl w3 Y8 g0 (goesA y) q7) := Lib.hid (by rw [hY8, hC]; exact S7.out.put HO.out)
    rw [show At.v (goesA y) q7 = .agg C by rw [hC]]
    clear hC
    go_upto_region 17 with (refine wpList_store_rowTo rfl 31 (.tmp 12) (.tmp 84) rfl rfl g0 C rfl rfl 31 _ HBV.out hsz hold hone ?_; rw [← hY8])
    clear hY8 hone hsz hold HBV S7 HO
    have P8 := Lib.hid (T1.out.on S8.out.be)
    obtain ⟨C, hC⟩ : ∃ C, C = At.c (goesA y) q7 := ⟨_, rfl⟩
    have hone : C.all (·.oneCell') = true := by rw [hC]; exact c_one _ _
    have hsz : (Try.prog.info? 31).map (·.size) = some C.size := by rw [hC]; exact c_size _ _
    have hold : (zAt : Array Value).size = C.size := by rw [hC]; rfl
    have HBT : Hid ((World.heap Y8)[g0]? = some (.cells C 31 (0, 0))) := Lib.hid (by rw [hC]; exact S8.out.bt)
    obtain ⟨Z, hZ⟩ : ∃ Z, Z = World.setRow Y8 (w.heap.size + 2) C := ⟨_, rfl⟩
    have HR : Hid (Z.heap[(w.heap.size + 2)]? = some (.cells C 31 (0, 0))) := Lib.hid (by rw [hZ]; exact setRow_heap _ _ _ _ _ _ P8.out.rz)
    have HOR := Lib.hid (S8.out.ow.turn P8.out.rz C)
    have HBR : Hid (Below w.heap.size w Z) := Lib.hid (by rw [hZ]; exact below_setRow P8.out.pb.be P8.out.hr _)
    rw [← hZ] at HOR
    have HC := Lib.hid hC
    have HZZ := Lib.hid hZ
    clear hC hZ
    go_wp2_with (first
      | (refine wpList_load_row rfl 31 (.tmp 12) rfl g0 rfl 31 C (0, 0) _ HBT.out Try.underlying31 rfl hsz ?_)
      | (refine wpList_store_rowTo rfl 31 (.tmp 10) (.tmp 85) rfl rfl (w.heap.size + 2) C rfl rfl 31 _ P8.out.rz hsz hold hone ?_; rw [← HZZ.out]))
    exact bodyPost_ret (results_row_tmp rfl _ _ (w.heap.size + 2) 31 C (0, 0) _ (.int .i64 0) rfl HR.out rfl Try.underlying31 rfl hsz) rfl ⟨q7, by rw [HC.out, HA.out, HN2.out], by rw [HA.out]; exact HOR.out, HBR.out⟩
  case neg =>
    have dk : ((k : Int) == 1) = false := by rw [beq_eq_false_iff_ne]; omega
    have HA : Hid (X = y) := Lib.hid (by rw [HA0.out, HCX.out, if_neg hk])
    clear hk
    go_upto_region 17 with (fail)
    clear dk
    have P8 := Lib.hid (T1.out.on S4.out.be)
    obtain ⟨C, hC⟩ : ∃ C, C = At.c (y) q := ⟨_, rfl⟩
    have hone : C.all (·.oneCell') = true := by rw [hC]; exact c_one _ _
    have hsz : (Try.prog.info? 31).map (·.size) = some C.size := by rw [hC]; exact c_size _ _
    have hold : (zAt : Array Value).size = C.size := by rw [hC]; rfl
    have HBT : Hid ((World.heap Y1)[g0]? = some (.cells C 31 (0, 0))) := Lib.hid (by rw [hC]; exact S4.out.bt)
    obtain ⟨Z, hZ⟩ : ∃ Z, Z = World.setRow Y1 (w.heap.size + 2) C := ⟨_, rfl⟩
    have HR : Hid (Z.heap[(w.heap.size + 2)]? = some (.cells C 31 (0, 0))) := Lib.hid (by rw [hZ]; exact setRow_heap _ _ _ _ _ _ P8.out.rz)
    have HOR := Lib.hid (S4.out.ow.turn P8.out.rz C)
    have HBR : Hid (Below w.heap.size w Z) := Lib.hid (by rw [hZ]; exact below_setRow P8.out.pb.be P8.out.hr _)
    rw [← hZ] at HOR
    have HC := Lib.hid hC
    have HZZ := Lib.hid hZ
    clear hC hZ
    go_wp2_with (first
      | (refine wpList_load_row rfl 31 (.tmp 12) rfl g0 rfl 31 C (0, 0) _ HBT.out Try.underlying31 rfl hsz ?_)
      | (refine wpList_store_rowTo rfl 31 (.tmp 10) (.tmp 85) rfl rfl (w.heap.size + 2) C rfl rfl 31 _ P8.out.rz hsz hold hone ?_; rw [← HZZ.out]))
    exact bodyPost_ret (results_row_tmp rfl _ _ (w.heap.size + 2) 31 C (0, 0) _ (.int .i64 0) rfl HR.out rfl Try.underlying31 rfl hsz) rfl ⟨q, by rw [HC.out, HA.out, HN2.out], by rw [HA.out]; exact HOR.out, HBR.out⟩
end Go.Proofs.Ytdioafoikcfhhaa
