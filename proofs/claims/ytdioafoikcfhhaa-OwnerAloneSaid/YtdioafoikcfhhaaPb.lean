/- The document's Written. -/
import Derived.Test.YtdioafoikcfhhaaOu
set_option linter.unusedSimpArgs false
set_option linter.unusedVariables false
set_option linter.unusedSimpArgs false
set_option linter.unusedVariables false
namespace Go.Proofs.Ytdioafoikcfhhaa
open Go.RowKit
set_option maxRecDepth 100000 in
set_option maxHeartbeats 8000000 in
theorem rwritteno_calls (c : Cr) (A : Option Addr) (n : Nat) (x : At) (p : ALie) (w : World) (hc : CLies w c A) (h : ALies w x p) (hs : ASm x) (hks : Ks x) :
    Calls Try.prog 20 #[c.v A n, x.v p] w fun e w' => ∃ q, e = .returned (At.v (wriA c x) q) ∧ AOw w' (wriA c x) q ∧ Below w.heap.size w w' := by
  obtain ⟨V, hV⟩ : ∃ V, V = ((w.alloc (.cells (c.c A n) 25)).alloc (.cells (x.c p) 31)).alloc (.cells zAt 31) := ⟨_, rfl⟩
  have S0 : Hid (Pz w V c A n x p (w.heap.size + 2)) := Lib.hid (by rw [hV]; exact Pz.start hc h)
  have HS := Lib.hid hs
  have HKS := Lib.hid hks
  obtain ⟨X, hX⟩ : ∃ X, wriA c x = X := ⟨_, rfl⟩
  rw [hX]
  have HX := Lib.hid hX
  clear h hc hs hks hX
  go_enter Try.func20, Try.ntmps20
  go_upto_region 1 with (fail)
  rw [← hV]
  clear hV
  go_wp2_with (first
  | (refine wpList_load_part rfl 25 (.tmp 2) rfl w.heap.size 0 rfl (Cr.c c A n).toList _ (S0.out.pb.cb).all Try.underlying25 rfl cred_size (Cr.v c A n) rfl ?_)
  | (refine wpList_load_part rfl 31 (.tmp 3) rfl (w.heap.size + 1) 0 rfl (At.c x p).toList _ (S0.out.pb.bt).bt0 Try.underlying31 rfl attr_size (At.v x p) rfl ?_))
  refine (rmayo_calls c A n x p V S0.out.pb.cl S0.out.pb.al HS.out HKS.out).mono ?_
  rintro e w1 ⟨rfl, hb⟩
  have S1 := Lib.hid (S0.out.on hb)
  clear hb S0
  cases hv : validB c x
  case false =>
    have HA : Hid (X = atZ) := Lib.hid (by rw [← HX.out]; unfold wriA; rw [hv]; rfl)
    clear hv
    have hone : (zAt).all (·.oneCell') = true := by rw [← Array.all_toList]; rfl
    obtain ⟨Z, hZ⟩ : ∃ Z, Z = World.setRow w1 (w.heap.size + 2) zAt := ⟨_, rfl⟩
    have HR : Hid (Z.heap[(w.heap.size + 2)]? = some (.cells zAt 31 (0, 0))) := Lib.hid (by rw [hZ]; exact setRow_heap _ _ _ _ _ _ S1.out.rz)
    have HBZ : Hid (Below w.heap.size w Z) := Lib.hid (by rw [hZ]; exact below_setRow S1.out.pb.be S1.out.hr _)
    have HZZ := Lib.hid hZ
    clear hZ
    go_wp2_with (first
      | (refine wpList_buildTo rfl 31 #[] rfl (some 9) rfl zAt (by kernel_rfl) ?_)
      | (refine wpList_store_rowTo rfl 31 (.tmp 4) (.tmp 9) rfl rfl (w.heap.size + 2) zAt rfl rfl 31 _ S1.out.rz attr_size rfl hone ?_; rw [← HZZ.out]))
    exact bodyPost_ret (results_cell_row rfl _ _ (w.heap.size + 2) 31 _ (0, 0) _ rfl HR.out Try.underlying31 rfl attr_size) rfl ⟨alieZ, by rw [HA.out]; rfl, by rw [HA.out]; exact AOw.z _, HBZ.out⟩
  case true =>
  have HM := Lib.hid (valid_parts hv).2
  have HN : Hid (X = if c.ui = 0 then x else goesA x) := Lib.hid (by rw [← HX.out]; unfold wriA; rw [hv]; rfl)
  clear hv HX
  obtain ⟨z, hz⟩ : ∃ z, c.ui = z := ⟨_, rfl⟩
  have yc0 := S1.out.pb.cb.c0
  rw [hz] at yc0 HN
  clear hz
  by_cases h0 : z = 0
  case pos =>
    have d0 : ((z : Int) == 0) = true := by rw [h0]; rfl
    have HY : Hid (X = x) := Lib.hid (by rw [HN.out, if_pos h0])
    clear h0 HN
    go_wp2_with (refine wpList_load_part rfl 31 (.tmp 3) rfl (w.heap.size + 1) 0 rfl (At.c x p).toList _ (S1.out.pb.bt).bt0 Try.underlying31 rfl attr_size (At.v x p) rfl ?_)
    refine (racopy_calls x p w1 S1.out.pb.al HS.out).mono ?_
    rintro e w2 ⟨q, rfl, hC0, hb⟩
    have S2 := Lib.hid (S1.out.on hb)
    have HO := Lib.hid (AOw.of hC0)
    clear hb hC0 S1 yc0 d0
    obtain ⟨C, hC⟩ : ∃ C, C = At.c (x) q := ⟨_, rfl⟩
    have hone : C.all (·.oneCell') = true := by rw [hC]; exact c_one _ _
    have hsz : (Try.prog.info? 31).map (·.size) = some C.size := by rw [hC]; exact c_size _ _
    have hold : (zAt : Array Value).size = C.size := by rw [hC]; rfl
    obtain ⟨Z, hZ⟩ : ∃ Z, Z = World.setRow w2 (w.heap.size + 2) C := ⟨_, rfl⟩
    have HR : Hid (Z.heap[(w.heap.size + 2)]? = some (.cells C 31 (0, 0))) := Lib.hid (by rw [hZ]; exact setRow_heap _ _ _ _ _ _ S2.out.rz)
    have HOR := Lib.hid ((HO.out).turn S2.out.rz C)
    have HBR : Hid (Below w.heap.size w Z) := Lib.hid (by rw [hZ]; exact below_setRow S2.out.pb.be S2.out.hr _)
    rw [← hZ] at HOR
    have HC := Lib.hid hC
    have HZZ := Lib.hid hZ
    rw [show At.v (x) q = .agg C by rw [hC]]
    clear hC hZ
    go_wp2_with (refine wpList_store_rowTo rfl 31 (.tmp 4) (.tmp 14) rfl rfl (w.heap.size + 2) C rfl rfl 31 _ S2.out.rz hsz hold hone ?_; rw [← HZZ.out])
    exact bodyPost_ret (results_cell_row rfl _ _ (w.heap.size + 2) 31 _ (0, 0) _ rfl HR.out Try.underlying31 rfl hsz) rfl ⟨q, by rw [HC.out, HY.out], by rw [HY.out]; exact HOR.out, HBR.out⟩
  case neg =>
    have d0 : ((z : Int) == 0) = false := by rw [beq_eq_false_iff_ne]; omega
    have HY : Hid (X = goesA x) := Lib.hid (by rw [HN.out, if_neg h0])
    clear h0 HN
    go_wp2_with (refine wpList_load_part rfl 31 (.tmp 3) rfl (w.heap.size + 1) 0 rfl (At.c x p).toList _ (S1.out.pb.bt).bt0 Try.underlying31 rfl attr_size (At.v x p) rfl ?_)
    refine (rgoes_calls x p w1 S1.out.pb.al HS.out (nb_may (amay_parts HM.out).2.1) (by have := may8 HM.out; omega)).mono ?_
    rintro e w2 ⟨q, rfl, how, hb⟩
    have S2 := Lib.hid (S1.out.on hb)
    have HO := Lib.hid how
    clear hb how S1 yc0 d0
    obtain ⟨C, hC⟩ : ∃ C, C = At.c (goesA x) q := ⟨_, rfl⟩
    have hone : C.all (·.oneCell') = true := by rw [hC]; exact c_one _ _
    have hsz : (Try.prog.info? 31).map (·.size) = some C.size := by rw [hC]; exact c_size _ _
    have hold : (zAt : Array Value).size = C.size := by rw [hC]; rfl
    obtain ⟨Z, hZ⟩ : ∃ Z, Z = World.setRow w2 (w.heap.size + 2) C := ⟨_, rfl⟩
    have HR : Hid (Z.heap[(w.heap.size + 2)]? = some (.cells C 31 (0, 0))) := Lib.hid (by rw [hZ]; exact setRow_heap _ _ _ _ _ _ S2.out.rz)
    have HOR := Lib.hid ((HO.out).turn S2.out.rz C)
    have HBR : Hid (Below w.heap.size w Z) := Lib.hid (by rw [hZ]; exact below_setRow S2.out.pb.be S2.out.hr _)
    rw [← hZ] at HOR
    have HC := Lib.hid hC
    have HZZ := Lib.hid hZ
    rw [show At.v (goesA x) q = .agg C by rw [hC]]
    clear hC hZ
    go_wp2_with (refine wpList_store_rowTo rfl 31 (.tmp 4) (.tmp 16) rfl rfl (w.heap.size + 2) C rfl rfl 31 _ S2.out.rz hsz hold hone ?_; rw [← HZZ.out])
    exact bodyPost_ret (results_cell_row rfl _ _ (w.heap.size + 2) 31 _ (0, 0) _ rfl HR.out Try.underlying31 rfl hsz) rfl ⟨q, by rw [HC.out, HY.out], by rw [HY.out]; exact HOR.out, HBR.out⟩
end Go.Proofs.Ytdioafoikcfhhaa
