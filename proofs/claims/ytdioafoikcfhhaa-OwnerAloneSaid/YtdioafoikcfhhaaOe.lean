/- The program's sgidLost. -/
import Derived.Test.YtdioafoikcfhhaaOd
set_option linter.unusedSimpArgs false
set_option linter.unusedVariables false
set_option linter.unusedSimpArgs false
set_option linter.unusedVariables false
namespace Go.Proofs.Ytdioafoikcfhhaa
open Go.RowKit
set_option maxRecDepth 100000 in
set_option maxHeartbeats 4000000 in
theorem sgid_calls (c : Cr) (A : Option Addr) (n : Nat) (x : At) (p : ALie) (k : Nat) (w : World) (hc : CLies w c A) (h : AOw w x p) (hbi : x.bi < 256) :
    Calls Try.prog 40 #[c.v A n, x.v p, .int .u8 (k : Nat)] w fun e w' => e = .returned (At.v (lostA c x k) p) ∧ AOw w' (lostA c x k) p ∧ Below w.heap.size w w' := by
  have hB : Below w.heap.size w (w.alloc (.cells (c.c A n) 25)) := (Below.refl _ _).alloc (Nat.le_refl _) _
  have hcb := Cb.new w c A n
  have hcl := hc.below hB
  have how := h.below hB
  have hsz : (w.alloc (.cells (c.c A n) 25)).heap.size = w.heap.size + 1 := World.size_alloc _ _
  obtain ⟨B, hBB⟩ : ∃ B, B = w.alloc (.cells (c.c A n) 25) := ⟨_, rfl⟩
  rw [← hBB] at hB hcb hcl how hsz
  obtain ⟨V, hV⟩ : ∃ V, V = (B.alloc (.cells (x.c p) 31)).alloc (.cells zAt 31) := ⟨_, rfl⟩
  have S0 : Hid (Wk B V (w.heap.size + 1) x p (w.heap.size + 2) zAt) := Lib.hid (by rw [hV, show w.heap.size + 2 = (w.heap.size + 1) + 1 from rfl, ← hsz]; exact Wk.start B how)
  have HBE := Lib.hid hB
  have HCB := Lib.hid hcb
  have HCL := Lib.hid hcl
  have FIN : Hid (∀ Z, Below B.heap.size B Z → Below w.heap.size w Z) := Lib.hid (fun Z hZ => hB.trans (hZ.mono hB.size))
  obtain ⟨u, hu⟩ : ∃ u, c.ui = u := ⟨_, rfl⟩
  have HU := Lib.hid hu
  have HLB : Hid (lostB c x k = (decide (k = 1) && (!decide (u = 0) && !inB c x.gi))) := Lib.hid (by rw [← hu]; rfl)
  clear h hc hB hcb hcl how hsz hu
  rw [hBB] at hV
  go_enter Try.func40, Try.ntmps40
  go_upto_region 1 with (fail)
  rw [← hV]
  clear hV hBB
  have yc0 := (HCB.out.on S0.out.be).c0
  rw [HU.out] at yc0
  have y2 := S0.out.bt.c2
  by_cases h1 : k = 1
  case neg =>
    have d1 : ((k : Int) == 1) = false := by rw [beq_eq_false_iff_ne]; omega
    have HG : Hid (lostA c x k = x) := Lib.hid (by unfold lostA; rw [HLB.out, decide_eq_false h1]; rfl)
    clear h1
    go_upto_region 3 with (fail)
    clear d1 yc0 y2
    obtain ⟨C, hC⟩ : ∃ C, C = At.c (x) p := ⟨_, rfl⟩
    have hone : C.all (·.oneCell') = true := by rw [hC]; exact c_one _ _
    have hsz : (Try.prog.info? 31).map (·.size) = some C.size := by rw [hC]; exact c_size _ _
    have hold : (zAt : Array Value).size = C.size := by rw [hC]; rfl
    have HBT : Hid ((World.heap V)[(w.heap.size + 1)]? = some (.cells C 31 (0, 0))) := Lib.hid (by rw [hC]; exact S0.out.bt)
    obtain ⟨Z, hZ⟩ : ∃ Z, Z = World.setRow V (w.heap.size + 2) C := ⟨_, rfl⟩
    have HR := Lib.hid (S0.out.res C)
    rw [← hZ] at HR
    have HC := Lib.hid hC
    have HZZ := Lib.hid hZ
    clear hC hZ
    go_wp2_with (first
      | (refine wpList_load_row rfl 31 (.tmp 4) rfl (w.heap.size + 1) rfl 31 C (0, 0) _ HBT.out Try.underlying31 rfl hsz ?_)
      | (refine wpList_store_rowTo rfl 31 (.tmp 6) (.tmp 25) rfl rfl (w.heap.size + 2) C rfl rfl 31 _ S0.out.rb hsz hold hone ?_; rw [← HZZ.out]))
    exact bodyPost_ret (results_cell_row rfl _ _ (w.heap.size + 2) 31 _ (0, 0) _ rfl HR.out.rb Try.underlying31 rfl hsz) rfl ⟨by rw [HG.out, HC.out], by rw [HG.out]; exact HR.out.ow, FIN.out _ HR.out.be⟩
  case pos =>
  have d1 : ((k : Int) == 1) = true := by rw [h1]; rfl
  have HLB1 : Hid (lostB c x k = (!decide (u = 0) && !inB c x.gi)) := Lib.hid (by rw [HLB.out, decide_eq_true h1]; rfl)
  clear h1 HLB
  by_cases h2 : u = 0
  case pos =>
    have d2 : ((u : Int) != 0) = false := by rw [h2]; rfl
    have HG : Hid (lostA c x k = x) := Lib.hid (by unfold lostA; rw [HLB1.out, decide_eq_true h2]; rfl)
    clear h2
    go_upto_region 3 with (fail)
    clear d1 d2 yc0 y2
    obtain ⟨C, hC⟩ : ∃ C, C = At.c (x) p := ⟨_, rfl⟩
    have hone : C.all (·.oneCell') = true := by rw [hC]; exact c_one _ _
    have hsz : (Try.prog.info? 31).map (·.size) = some C.size := by rw [hC]; exact c_size _ _
    have hold : (zAt : Array Value).size = C.size := by rw [hC]; rfl
    have HBT : Hid ((World.heap V)[(w.heap.size + 1)]? = some (.cells C 31 (0, 0))) := Lib.hid (by rw [hC]; exact S0.out.bt)
    obtain ⟨Z, hZ⟩ : ∃ Z, Z = World.setRow V (w.heap.size + 2) C := ⟨_, rfl⟩
    have HR := Lib.hid (S0.out.res C)
    rw [← hZ] at HR
    have HC := Lib.hid hC
    have HZZ := Lib.hid hZ
    clear hC hZ
    go_wp2_with (first
      | (refine wpList_load_row rfl 31 (.tmp 4) rfl (w.heap.size + 1) rfl 31 C (0, 0) _ HBT.out Try.underlying31 rfl hsz ?_)
      | (refine wpList_store_rowTo rfl 31 (.tmp 6) (.tmp 25) rfl rfl (w.heap.size + 2) C rfl rfl 31 _ S0.out.rb hsz hold hone ?_; rw [← HZZ.out]))
    exact bodyPost_ret (results_cell_row rfl _ _ (w.heap.size + 2) 31 _ (0, 0) _ rfl HR.out.rb Try.underlying31 rfl hsz) rfl ⟨by rw [HG.out, HC.out], by rw [HG.out]; exact HR.out.ow, FIN.out _ HR.out.be⟩
  case neg =>
  have d2 : ((u : Int) != 0) = true := by rw [bne_iff_ne]; omega
  have HLB2 : Hid (lostB c x k = (!inB c x.gi)) := Lib.hid (by rw [HLB1.out, decide_eq_false h2]; rfl)
  clear h2 HLB1
  go_wp2_with (refine wpList_load_part rfl 25 (.tmp 3) rfl w.heap.size 0 rfl (Cr.c c A n).toList _ (HCB.out.on S0.out.be).all Try.underlying25 rfl cred_size (Cr.v c A n) rfl ?_)
  refine (in_calls c A n x.gi V (HCL.out.below S0.out.be)).mono ?_
  rintro e w2 ⟨rfl, hb⟩
  have S2 := Lib.hid (S0.out.on hb)
  clear hb S0 yc0 y2
  cases hi : inB c x.gi
  case true =>
    have HG : Hid (lostA c x k = x) := Lib.hid (by unfold lostA; rw [HLB2.out, hi]; rfl)
    clear hi
    go_upto_region 3 with (fail)
    clear d1 d2
    obtain ⟨C, hC⟩ : ∃ C, C = At.c (x) p := ⟨_, rfl⟩
    have hone : C.all (·.oneCell') = true := by rw [hC]; exact c_one _ _
    have hsz : (Try.prog.info? 31).map (·.size) = some C.size := by rw [hC]; exact c_size _ _
    have hold : (zAt : Array Value).size = C.size := by rw [hC]; rfl
    have HBT : Hid ((World.heap w2)[(w.heap.size + 1)]? = some (.cells C 31 (0, 0))) := Lib.hid (by rw [hC]; exact S2.out.bt)
    obtain ⟨Z, hZ⟩ : ∃ Z, Z = World.setRow w2 (w.heap.size + 2) C := ⟨_, rfl⟩
    have HR := Lib.hid (S2.out.res C)
    rw [← hZ] at HR
    have HC := Lib.hid hC
    have HZZ := Lib.hid hZ
    clear hC hZ
    go_wp2_with (first
      | (refine wpList_load_row rfl 31 (.tmp 4) rfl (w.heap.size + 1) rfl 31 C (0, 0) _ HBT.out Try.underlying31 rfl hsz ?_)
      | (refine wpList_store_rowTo rfl 31 (.tmp 6) (.tmp 25) rfl rfl (w.heap.size + 2) C rfl rfl 31 _ S2.out.rb hsz hold hone ?_; rw [← HZZ.out]))
    exact bodyPost_ret (results_cell_row rfl _ _ (w.heap.size + 2) 31 _ (0, 0) _ rfl HR.out.rb Try.underlying31 rfl hsz) rfl ⟨by rw [HG.out, HC.out], by rw [HG.out]; exact HR.out.ow, FIN.out _ HR.out.be⟩
  case false =>
    have HG : Hid (lostA c x k = withBi x (offN x.bi 2)) := Lib.hid (by unfold lostA; rw [HLB2.out, hi]; rfl)
    have e2 : bits .andNot .u8 (x.bi : Int) 2 = (offN x.bi 2 : Int) := off8 2 (by decide) x.bi hbi
    clear hi
    have y0 := S2.out.bt.c0
    obtain ⟨U2, hU2⟩ : ∃ Zz, Zz = World.setRow w2 (w.heap.size + 1) (At.c (withBi x (offN x.bi 2)) p) := ⟨_, rfl⟩
    have S3 := Lib.hid (S2.out.put (S2.out.ow.bi (offN x.bi 2)))
    rw [← hU2] at S3
    go_upto_region 3 with (refine wpList_store_part rfl 5 (.tmp 24) (.tmp 23) rfl rfl (w.heap.size + 1) 0 [.int .u8 ((offN x.bi 2 : Nat) : Int)] rfl rfl 31 _ S2.out.bt u8_size (Nat.le_of_ble_eq_true rfl) (one_of rfl) (At.c (withBi x (offN x.bi 2)) p) rfl ?_; rw [← hU2])
    clear d1 d2 y0 e2 hU2 S2
    obtain ⟨C, hC⟩ : ∃ C, C = At.c (withBi x (offN x.bi 2)) p := ⟨_, rfl⟩
    have hone : C.all (·.oneCell') = true := by rw [hC]; exact c_one _ _
    have hsz : (Try.prog.info? 31).map (·.size) = some C.size := by rw [hC]; exact c_size _ _
    have hold : (zAt : Array Value).size = C.size := by rw [hC]; rfl
    have HBT : Hid ((World.heap U2)[(w.heap.size + 1)]? = some (.cells C 31 (0, 0))) := Lib.hid (by rw [hC]; exact S3.out.bt)
    obtain ⟨Z, hZ⟩ : ∃ Z, Z = World.setRow U2 (w.heap.size + 2) C := ⟨_, rfl⟩
    have HR := Lib.hid (S3.out.res C)
    rw [← hZ] at HR
    have HC := Lib.hid hC
    have HZZ := Lib.hid hZ
    clear hC hZ
    go_wp2_with (first
      | (refine wpList_load_row rfl 31 (.tmp 4) rfl (w.heap.size + 1) rfl 31 C (0, 0) _ HBT.out Try.underlying31 rfl hsz ?_)
      | (refine wpList_store_rowTo rfl 31 (.tmp 6) (.tmp 25) rfl rfl (w.heap.size + 2) C rfl rfl 31 _ S3.out.rb hsz hold hone ?_; rw [← HZZ.out]))
    exact bodyPost_ret (results_cell_row rfl _ _ (w.heap.size + 2) 31 _ (0, 0) _ rfl HR.out.rb Try.underlying31 rfl hsz) rfl ⟨by rw [HG.out, HC.out], by rw [HG.out]; exact HR.out.ow, FIN.out _ HR.out.be⟩
end Go.Proofs.Ytdioafoikcfhhaa
