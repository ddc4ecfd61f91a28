/- The program's Written. -/
import Derived.Test.YtdioafoikcfhhaaOp
set_option linter.unusedSimpArgs false
set_option linter.unusedVariables false
set_option linter.unusedSimpArgs false
set_option linter.unusedVariables false
namespace Go.Proofs.Ytdioafoikcfhhaa
open Go.RowKit
set_option maxRecDepth 100000 in
set_option maxHeartbeats 8000000 in
theorem writteno_calls (c : Cr) (A : Option Addr) (n : Nat) (x : At) (p : ALie) (w : World) (hc : CLies w c A) (h : ALies w x p) (hs : ASm x) :
    Calls Try.prog 19 #[c.v A n, x.v p] w fun e w' => ∃ q, e = .returned (At.v (wriA c x) q) ∧ AOw w' (wriA c x) q ∧ Below w.heap.size w w' := by
  have hB : Below w.heap.size w (w.alloc (.cells (c.c A n) 25)) := (Below.refl _ _).alloc (Nat.le_refl _) _
  have hcb := Cb.new w c A n
  have hcl := hc.below hB
  have hsz : (w.alloc (.cells (c.c A n) 25)).heap.size = w.heap.size + 1 := World.size_alloc _ _
  obtain ⟨B, hBB⟩ : ∃ B, B = w.alloc (.cells (c.c A n) 25) := ⟨_, rfl⟩
  rw [← hBB] at hB hcb hcl hsz
  obtain ⟨V, hV⟩ : ∃ V, V = (B.alloc (.cells (x.c p) 31)).alloc (.cells zAt 31) := ⟨_, rfl⟩
  have hbv : Below B.heap.size B V := by
    rw [hV]
    exact ((Below.refl _ _).alloc (Nat.le_refl _) _).alloc (by rw [World.size_alloc]; omega) _
  have hx1 : Bt V (w.heap.size + 1) x p := by
    have b2 : Below (B.alloc (.cells (x.c p) 31)).heap.size (B.alloc (.cells (x.c p) 31)) V := by rw [hV]; exact (Below.refl _ _).alloc (Nat.le_refl _) _
    have := (Bt.new B x p).on b2
    rwa [hsz] at this
  have hr1 : V.heap[w.heap.size + 2]? = some (.cells zAt 31 (0, 0)) := by
    have := heap_alloc_new (B.alloc (.cells (x.c p) 31)) (.cells zAt 31)
    rw [World.size_alloc, hsz] at this
    rw [hV]
    exact this
  have HBV := Lib.hid hbv
  have HX1 := Lib.hid hx1
  have HR1 := Lib.hid hr1
  have HCB := Lib.hid hcb
  have HCL := Lib.hid hcl
  have HLI := Lib.hid (h.below (hB.trans (hbv.mono hB.size)))
  have FIN : Hid (∀ Z, Below B.heap.size B Z → Below w.heap.size w Z) := Lib.hid (fun Z hZ => hB.trans (hZ.mono hB.size))
  have HSZ := Lib.hid hsz
  have HS := Lib.hid hs
  clear h hc hB hcb hcl hsz hbv hx1 hr1 hs
  rw [hBB] at hV
  go_enter Try.func19, Try.ntmps19
  go_upto_region 1 with (fail)
  rw [← hV]
  clear hV hBB
  go_wp2_with (first
  | (refine wpList_load_part rfl 25 (.tmp 2) rfl w.heap.size 0 rfl (Cr.c c A n).toList _ (HCB.out.on HBV.out).all Try.underlying25 rfl cred_size (Cr.v c A n) rfl ?_)
  | (refine wpList_load_part rfl 31 (.tmp 3) rfl (w.heap.size + 1) 0 rfl (At.c x p).toList _ (HX1.out).bt0 Try.underlying31 rfl attr_size (At.v x p) rfl ?_))
  refine (ovalid_calls c A n x p V (HCL.out.below HBV.out) HLI.out HS.out).mono ?_
  rintro e w1 ⟨rfl, hb⟩
  have HB1 : Hid (Below B.heap.size B w1) := Lib.hid (HBV.out.trans (hb.mono HBV.out.size))
  have HX2 := Lib.hid (HX1.out.on hb)
  have HR2 : Hid (w1.heap[w.heap.size + 2]? = some (.cells zAt 31 (0, 0))) := Lib.hid ((hb.block _ (lt_of_cells HR1.out)).trans HR1.out)
  have HL2 := Lib.hid (HLI.out.below hb)
  clear hb HBV HX1 HR1 HLI
  cases hv : validB c x
  case false =>
    have HN : Hid (wriA c x = atZ) := Lib.hid (by unfold wriA; rw [hv]; rfl)
    clear hv
    have hone : (zAt).all (·.oneCell') = true := by rw [← Array.all_toList]; rfl
    obtain ⟨Z, hZ⟩ : ∃ Z, Z = World.setRow w1 (w.heap.size + 2) zAt := ⟨_, rfl⟩
    have HR : Hid (Z.heap[w.heap.size + 2]? = some (.cells zAt 31 (0, 0))) := Lib.hid (by rw [hZ]; exact setRow_heap _ _ _ _ _ _ HR2.out)
    have HBZ : Hid (Below B.heap.size B Z) := Lib.hid (by rw [hZ]; exact below_setRow HB1.out (by rw [HSZ.out]; omega) _)
    go_wp2_with (first
      | (refine wpList_buildTo rfl 31 #[] rfl (some 9) rfl zAt (by kernel_rfl) ?_)
      | (refine wpList_store_rowTo rfl 31 (.tmp 4) (.tmp 9) rfl rfl (w.heap.size + 2) zAt rfl rfl 31 _ HR2.out attr_size rfl hone ?_; rw [← hZ]))
    exact bodyPost_ret (results_cell_row rfl _ _ (w.heap.size + 2) 31 _ (0, 0) _ rfl HR.out Try.underlying31 rfl attr_size) rfl ⟨alieZ, by rw [HN.out]; rfl, by rw [HN.out]; exact AOw.z _, FIN.out _ HBZ.out⟩
  case true =>
  have HN : Hid (wriA c x = if c.ui = 0 then x else goesA x) := Lib.hid (by unfold wriA; rw [hv]; rfl)
  have HM := Lib.hid (valid_parts hv).2
  clear hv
  go_wp2_with (refine wpList_load_part rfl 31 (.tmp 3) rfl (w.heap.size + 1) 0 rfl (At.c x p).toList _ (HX2.out).bt0 Try.underlying31 rfl attr_size (At.v x p) rfl ?_)
  refine (acopy_calls x p w1 HL2.out HS.out).mono ?_
  rintro e w2 ⟨q, rfl, hC, hb⟩
  have HB2 : Hid (Below B.heap.size B w2) := Lib.hid (HB1.out.trans (hb.mono HB1.out.size))
  have how := AOw.of hC
  have hx3 := HX2.out.on hb
  have hr3 : w2.heap[w.heap.size + 2]? = some (.cells zAt 31 (0, 0)) := (hb.block _ (lt_of_cells HR2.out)).trans HR2.out
  have HX3 := Lib.hid hx3
  obtain ⟨C, hC2⟩ : ∃ C, C = At.c x q := ⟨_, rfl⟩
  have hone : C.all (·.oneCell') = true := by rw [hC2]; exact c_one _ _
  have hsz : (Try.prog.info? 31).map (·.size) = some C.size := by rw [hC2]; exact c_size _ _
  have hold : (At.c x p).size = C.size := by rw [hC2]; rfl
  obtain ⟨U, hU⟩ : ∃ U, U = World.setRow w2 (w.heap.size + 1) C := ⟨_, rfl⟩
  have S0 : Hid (Wk B U (w.heap.size + 1) x q (w.heap.size + 2) zAt) := Lib.hid (by
    rw [hU, hC2]
    exact ⟨setRow_heap _ _ _ _ _ _ hx3, how.turn hx3 _, (setRow_other w2 (w.heap.size + 1) (w.heap.size + 2) _ (by omega)).trans hr3, below_setRow HB2.out (by rw [HSZ.out]; omega) _, by rw [HSZ.out]; omega, by rw [HSZ.out]; omega, by omega⟩)
  have hxr : w2.heap[w.heap.size + 1]? = some (.cells (At.c x p) 31 (0, 0)) := hx3
  have HXR := Lib.hid hxr
  rw [show x.v q = .agg C by rw [hC2]]
  clear hb hC how hx3 hr3 HB1 HX2 HR2 HL2 HX3 hC2 hxr
  go_upto_region 4 with (refine wpList_store_rowTo rfl 31 (.tmp 3) (.tmp 11) rfl rfl (w.heap.size + 1) C rfl rfl 31 _ HXR.out hsz hold hone ?_; rw [← hU])
  clear hU HXR hone hsz hold HB2
  obtain ⟨z, hz⟩ : ∃ z, c.ui = z := ⟨_, rfl⟩
  have yc0 := (HCB.out.on S0.out.be).c0
  rw [hz] at yc0 HN
  clear hz
  by_cases h0 : z = 0
  case pos =>
    have d0 : ((z : Int) == 0) = true := by rw [h0]; rfl
    have HY : Hid (wriA c x = x) := Lib.hid (by rw [HN.out, if_pos h0])
    clear h0 HN
    go_upto_region 5 with (fail)
    clear yc0 d0
    obtain ⟨C, hC⟩ : ∃ C, C = At.c (x) q := ⟨_, rfl⟩
    have hone : C.all (·.oneCell') = true := by rw [hC]; exact c_one _ _
    have hsz : (Try.prog.info? 31).map (·.size) = some C.size := by rw [hC]; exact c_size _ _
    have hold : (zAt : Array Value).size = C.size := by rw [hC]; rfl
    have HBT : Hid ((World.heap U)[(w.heap.size + 1)]? = some (.cells C 31 (0, 0))) := Lib.hid (by rw [hC]; exact S0.out.bt)
    obtain ⟨Z, hZ⟩ : ∃ Z, Z = World.setRow U (w.heap.size + 2) C := ⟨_, rfl⟩
    have HR := Lib.hid (S0.out.res C)
    rw [← hZ] at HR
    have HC := Lib.hid hC
    have HZZ := Lib.hid hZ
    clear hC hZ
    go_wp2_with (first
      | (refine wpList_load_row rfl 31 (.tmp 3) rfl (w.heap.size + 1) rfl 31 C (0, 0) _ HBT.out Try.underlying31 rfl hsz ?_)
      | (refine wpList_store_rowTo rfl 31 (.tmp 4) (.tmp 15) rfl rfl (w.heap.size + 2) C rfl rfl 31 _ S0.out.rb hsz hold hone ?_; rw [← HZZ.out]))
    exact bodyPost_ret (results_cell_row rfl _ _ (w.heap.size + 2) 31 _ (0, 0) _ rfl HR.out.rb Try.underlying31 rfl hsz) rfl ⟨q, by rw [HC.out, HY.out], by rw [HY.out]; exact HR.out.ow, FIN.out _ HR.out.be⟩
  case neg =>
    have d0 : ((z : Int) == 0) = false := by rw [beq_eq_false_iff_ne]; omega
    have HY : Hid (wriA c x = goesA x) := Lib.hid (by rw [HN.out, if_neg h0])
    clear h0 HN
    go_wp2_with (refine wpList_load_part rfl 31 (.tmp 3) rfl (w.heap.size + 1) 0 rfl (At.c x q).toList _ (S0.out.bt).bt0 Try.underlying31 rfl attr_size (At.v x q) rfl ?_)
    refine (cleared_calls x q U S0.out.ow (nb_may (amay_parts HM.out).2.1) (by have := may8 HM.out; omega)).mono ?_
    rintro e w7 ⟨rfl, how, hb⟩
    have S7 := Lib.hid (S0.out.on hb)
    have HO := Lib.hid how
    clear hb how S0 yc0 d0
    obtain ⟨C, hC⟩ : ∃ C, C = At.c (goesA x) q := ⟨_, rfl⟩
    have hone : C.all (·.oneCell') = true := by rw [hC]; exact c_one _ _
    have hsz : (Try.prog.info? 31).map (·.size) = some C.size := by rw [hC]; exact c_size _ _
    have hold : (zAt : Array Value).size = C.size := by rw [hC]; rfl
    obtain ⟨Z, hZ⟩ : ∃ Z, Z = World.setRow w7 (w.heap.size + 2) C := ⟨_, rfl⟩
    have HR := Lib.hid (S7.out.res C)
    have HOR := Lib.hid ((HO.out).turn S7.out.rb C)
    rw [← hZ] at HR HOR
    have HC := Lib.hid hC
    have HZZ := Lib.hid hZ
    rw [show At.v (goesA x) q = .agg C by rw [hC]]
    clear hC hZ
    go_wp2_with (refine wpList_store_rowTo rfl 31 (.tmp 4) (.tmp 17) rfl rfl (w.heap.size + 2) C rfl rfl 31 _ S7.out.rb hsz hold hone ?_; rw [← HZZ.out])
    exact bodyPost_ret (results_cell_row rfl _ _ (w.heap.size + 2) 31 _ (0, 0) _ rfl HR.out.rb Try.underlying31 rfl hsz) rfl ⟨q, by rw [HC.out, HY.out], by rw [HY.out]; exact HOR.out, FIN.out _ HR.out.be⟩
end Go.Proofs.Ytdioafoikcfhhaa
