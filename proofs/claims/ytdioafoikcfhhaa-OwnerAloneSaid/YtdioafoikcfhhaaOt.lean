/- The document's goes, lost. -/
import Derived.Test.YtdioafoikcfhhaaOs
set_option linter.unusedSimpArgs false
set_option linter.unusedVariables false
set_option linter.unusedSimpArgs false
set_option linter.unusedVariables false
namespace Go.Proofs.Ytdioafoikcfhhaa
open Go.RowKit
theorem Wk.fresh {B W : World} {x : At} {q : ALie} {r : Nat} {R : Array Value} (h : AOw W x q) (hr : W.heap[r]? = some (.cells R 31 (0, 0)) ∧ B.heap.size ≤ r) (hb : Below B.heap.size B W) : Wk B ((W.alloc (.cells zAt 31)).setRow W.heap.size (At.c x q)) W.heap.size x q r R := by
  have b1 := put_below W (At.c x q)
  have hlt := lt_of_cells hr.1
  exact ⟨setRow_heap _ _ _ _ _ _ (heap_alloc_new W _), h.below b1, (b1.block _ hlt).trans hr.1, hb.trans (b1.mono hb.size), hb.size, hr.2, by omega⟩
set_option maxRecDepth 100000 in
set_option maxHeartbeats 4000000 in
theorem rgoes_calls (x : At) (p : ALie) (w : World) (h : ALies w x p) (hs : ASm x) (hx : Nb x.ac) (hbi : x.bi < 256) :
    Calls Try.prog 49 #[x.v p] w fun e w' => ∃ q, e = .returned (At.v (goesA x) q) ∧ AOw w' (goesA x) q ∧ Below w.heap.size w w' := by
  obtain ⟨V, hV⟩ : ∃ V, V = (w.alloc (.cells (x.c p) 31)).alloc (.cells zAt 31) := ⟨_, rfl⟩
  have S0 : Hid (Cst w V x p) := Lib.hid (by rw [hV]; exact Cst.start w x p)
  have HL := Lib.hid h
  have HS := Lib.hid hs
  have HX := Lib.hid hx
  obtain ⟨b1, hb1⟩ : ∃ b, offN x.bi 4 = b := ⟨_, rfl⟩
  have e4 : bits .andNot .u8 (x.bi : Int) 4 = (b1 : Int) := by rw [← hb1]; exact off8 4 (by decide) x.bi hbi
  have hl1 : b1 < 256 := by have := off_le x.bi 4; omega
  have HB1 := Lib.hid hb1
  clear h hs hx hb1
  go_enter Try.func49, Try.ntmps49
  go_upto_region 1 with (fail)
  rw [← hV]
  clear hV
  go_wp2_with (refine wpList_load_part rfl 31 (.tmp 1) rfl w.heap.size 0 rfl (At.c x p).toList _ (S0.out.bt).bt0 Try.underlying31 rfl attr_size (At.v x p) rfl ?_)
  refine (racopy_calls x p V (HL.out.below S0.out.be) HS.out).mono ?_
  rintro e w1 ⟨q, rfl, hC0, hb⟩
  have T1 := Lib.hid (S0.out.on hb)
  have HO := Lib.hid (AOw.of hC0)
  clear hb hC0 S0
  obtain ⟨C, hC⟩ : ∃ C, C = At.c (x) q := ⟨_, rfl⟩
  have hone : C.all (·.oneCell') = true := by rw [hC]; exact c_one _ _
  have hsz : (Try.prog.info? 31).map (·.size) = some C.size := by rw [hC]; exact c_size _ _
  have hold : (zAt : Array Value).size = C.size := by rw [hC]; rfl
  have HZn := Lib.hid (heap_alloc_new w1 (.cells zAt 31))
  obtain ⟨U, hU⟩ : ∃ Zz, Zz = (w1.alloc (.cells zAt 31)).setRow w1.heap.size C := ⟨_, rfl⟩
  obtain ⟨g, hg⟩ : ∃ g, g = w1.heap.size := ⟨_, rfl⟩
  have bu : Below w1.heap.size w1 U := by rw [hU]; exact put_below w1 C
  have S1 : Hid (Wk w U g (x) q (w.heap.size + 1) zAt) := Lib.hid (by rw [hU, hg, hC]; exact Wk.fresh HO.out ⟨T1.out.zr, by omega⟩ T1.out.be)
  
  rw [show At.v (x) q = .agg C by rw [hC]]
  clear hC bu T1 HO
  go_upto_region 2 with (refine wpList_store_rowTo rfl 31 (.tmp 3) (.tmp 5) rfl rfl w1.heap.size C rfl rfl 31 _ HZn.out hsz hold hone ?_; rw [← hU])
  clear hU HZn hsz hold hone
  rw [← hg]
  clear hg
  have y0 := S1.out.bt.c0
  obtain ⟨U1, hU1⟩ : ∃ Zz, Zz = World.setRow U g (At.c (withBi x b1) q) := ⟨_, rfl⟩
  have S2 := Lib.hid (S1.out.put (S1.out.ow.bi b1))
  rw [← hU1] at S2
  go_upto_region 3 with (refine wpList_store_part rfl 5 (.tmp 9) (.tmp 8) rfl rfl g 0 [.int .u8 ((b1 : Nat) : Int)] rfl rfl 31 _ S1.out.bt u8_size (Nat.le_of_ble_eq_true rfl) (one_of rfl) (At.c (withBi x b1) q) rfl ?_; rw [← hU1])
  clear hU1 S1 y0 e4
  go_wp2_with (refine wpList_load_part rfl 28 (.tmp 10) rfl g 3 rfl (Ac.c (withBi x b1).ac q.p).toList _ (S2.out.bt.ac) Try.underlying28 rfl acl_size (Ac.v (withBi x b1).ac q.p) rfl ?_)
  refine (cls_calls (withBi x b1).ac q.p U1).mono ?_
  rintro e w2 ⟨rfl, hb⟩
  have S3 := Lib.hid (S2.out.on hb)
  clear hb S2
  have h5 := and1 (cls (withBi x b1).ac) HX.out.cls
  by_cases hc : cls (withBi x b1).ac % 2 = 1
  case pos =>
    have e5 : bits .and .u8 (cls (withBi x b1).ac : Int) 1 = 1 := by rw [h5, hc]; rfl
    have e6 : (cls (withBi x b1).ac : Int) % 2 = 1 := by omega
    have e2 : bits .andNot .u8 (b1 : Int) 2 = (offN b1 2 : Int) := off8 2 (by decide) b1 hl1
    have HG : Hid (goesA x = withBi (withBi x b1) (offN b1 2)) := Lib.hid (by
      have hc' : cls x.ac % 2 = 1 := hc
      unfold goesA goesN
      rw [if_pos hc', HB1.out]
      rfl)
    clear h5 hc
    have y0 : w2.cell? ⟨g, 0, none⟩ = some (.int .u8 (b1 : Nat)) := S3.out.bt.c0
    obtain ⟨U2, hU2⟩ : ∃ Zz, Zz = World.setRow w2 g (At.c (withBi (withBi x b1) (offN b1 2)) q) := ⟨_, rfl⟩
    have S4 := Lib.hid (S3.out.put (S3.out.ow.bi (offN b1 2)))
    rw [← hU2] at S4
    generalize cls (withBi x b1).ac = cn at *
    go_upto_region 5 with (refine wpList_store_part rfl 5 (.tmp 18) (.tmp 17) rfl rfl g 0 [.int .u8 ((offN b1 2 : Nat) : Int)] rfl rfl 31 _ S3.out.bt u8_size (Nat.le_of_ble_eq_true rfl) (one_of rfl) (At.c (withBi (withBi x b1) (offN b1 2)) q) rfl ?_; rw [← hU2])
    clear hU2 S3 y0 e2 e5 e6
    rw [← HG.out] at S4
    obtain ⟨C, hC⟩ : ∃ C, C = At.c (goesA x) q := ⟨_, rfl⟩
    have hone : C.all (·.oneCell') = true := by rw [hC]; exact c_one _ _
    have hsz : (Try.prog.info? 31).map (·.size) = some C.size := by rw [hC]; exact c_size _ _
    have hold : (zAt : Array Value).size = C.size := by rw [hC]; rfl
    have HBT : Hid ((World.heap U2)[g]? = some (.cells C 31 (0, 0))) := Lib.hid (by rw [hC]; exact S4.out.bt)
    obtain ⟨Z, hZ⟩ : ∃ Z, Z = World.setRow U2 (w.heap.size + 1) C := ⟨_, rfl⟩
    have HR := Lib.hid (S4.out.res C)
    rw [← hZ] at HR
    have HC := Lib.hid hC
    have HZZ := Lib.hid hZ
    clear hC hZ
    go_wp2_with (first
      | (refine wpList_load_row rfl 31 (.tmp 3) rfl g rfl 31 C (0, 0) _ HBT.out Try.underlying31 rfl hsz ?_)
      | (refine wpList_store_rowTo rfl 31 (.tmp 2) (.tmp 19) rfl rfl (w.heap.size + 1) C rfl rfl 31 _ S4.out.rb hsz hold hone ?_; rw [← HZZ.out]))
    exact bodyPost_ret (results_cell_row rfl _ _ (w.heap.size + 1) 31 _ (0, 0) _ rfl HR.out.rb Try.underlying31 rfl hsz) rfl ⟨q, by rw [HC.out], HR.out.ow, HR.out.be⟩
  case neg =>
    have h0 : cls (withBi x b1).ac % 2 = 0 := by omega
    have e5 : bits .and .u8 (cls (withBi x b1).ac : Int) 1 = 0 := by rw [h5, h0]; rfl
    have e6 : (cls (withBi x b1).ac : Int) % 2 = 0 := by omega
    have HG : Hid (goesA x = withBi x b1) := Lib.hid (by
      have hc' : ¬ cls x.ac % 2 = 1 := hc
      unfold goesA goesN
      rw [if_neg hc', HB1.out])
    clear h5 hc h0
    generalize cls (withBi x b1).ac = cn at *
    go_upto_region 5 with (fail)
    clear e5 e6
    rw [← HG.out] at S3
    obtain ⟨C, hC⟩ : ∃ C, C = At.c (goesA x) q := ⟨_, rfl⟩
    have hone : C.all (·.oneCell') = true := by rw [hC]; exact c_one _ _
    have hsz : (Try.prog.info? 31).map (·.size) = some C.size := by rw [hC]; exact c_size _ _
    have hold : (zAt : Array Value).size = C.size := by rw [hC]; rfl
    have HBT : Hid ((World.heap w2)[g]? = some (.cells C 31 (0, 0))) := Lib.hid (by rw [hC]; exact S3.out.bt)
    obtain ⟨Z, hZ⟩ : ∃ Z, Z = World.setRow w2 (w.heap.size + 1) C := ⟨_, rfl⟩
    have HR := Lib.hid (S3.out.res C)
    rw [← hZ] at HR
    have HC := Lib.hid hC
    have HZZ := Lib.hid hZ
    clear hC hZ
    go_wp2_with (first
      | (refine wpList_load_row rfl 31 (.tmp 3) rfl g rfl 31 C (0, 0) _ HBT.out Try.underlying31 rfl hsz ?_)
      | (refine wpList_store_rowTo rfl 31 (.tmp 2) (.tmp 19) rfl rfl (w.heap.size + 1) C rfl rfl 31 _ S3.out.rb hsz hold hone ?_; rw [← HZZ.out]))
    exact bodyPost_ret (results_cell_row rfl _ _ (w.heap.size + 1) 31 _ (0, 0) _ rfl HR.out.rb Try.underlying31 rfl hsz) rfl ⟨q, by rw [HC.out], HR.out.ow, HR.out.be⟩
/-- A process, attributes, zeros for a result: three blocks of the call's own. -/
structure Pz (w V : World) (c : Cr) (A : Option Addr) (n : Nat) (x : At) (p : ALie) (r : Nat) : Prop where
  pb : Pb w V c A n x p
  rz : V.heap[r]? = some (.cells zAt 31 (0, 0))
  hr : w.heap.size ≤ r
theorem Pz.on {w V V' : World} {c : Cr} {A : Option Addr} {n : Nat} {x : At} {p : ALie} {r : Nat} (h : Pz w V c A n x p r) (hb : Below V.heap.size V V') : Pz w V' c A n x p r := ⟨h.pb.on hb, (hb.block _ (lt_of_cells h.rz)).trans h.rz, h.hr⟩
theorem Pz.start {w : World} {c : Cr} {A : Option Addr} {n : Nat} {x : At} {p : ALie} (hc : CLies w c A) (h : ALies w x p) : Pz w (((w.alloc (.cells (c.c A n) 25)).alloc (.cells (x.c p) 31)).alloc (.cells zAt 31)) c A n x p (w.heap.size + 2) := by
  refine ⟨(Pb.start hc h).one _, ?_, by omega⟩
  have := heap_alloc_new ((w.alloc (.cells (c.c A n) 25)).alloc (.cells (x.c p) 31)) (.cells zAt 31)
  simpa only [World.size_alloc, Nat.add_assoc] using this
set_option maxRecDepth 100000 in
set_option maxHeartbeats 4000000 in
theorem rlost_calls (c : Cr) (A : Option Addr) (n : Nat) (x : At) (p : ALie) (k : Nat) (w : World) (hc : CLies w c A) (h : ALies w x p) (hs : ASm x) (hbi : x.bi < 256) :
    Calls Try.prog 42 #[c.v A n, x.v p, .int .u8 (k : Nat)] w fun e w' => ∃ q, e = .returned (At.v (lostA c x k) q) ∧ AOw w' (lostA c x k) q ∧ Below w.heap.size w w' := by
  obtain ⟨V, hV⟩ : ∃ V, V = ((w.alloc (.cells (c.c A n) 25)).alloc (.cells (x.c p) 31)).alloc (.cells zAt 31) := ⟨_, rfl⟩
  have S0 : Hid (Pz w V c A n x p (w.heap.size + 2)) := Lib.hid (by rw [hV]; exact Pz.start hc h)
  have HS := Lib.hid hs
  obtain ⟨u, hu⟩ : ∃ u, c.ui = u := ⟨_, rfl⟩
  have HU := Lib.hid hu
  have HLB : Hid (lostB c x k = (decide (k = 1) && (!decide (u = 0) && !inB c x.gi))) := Lib.hid (by rw [← hu]; rfl)
  clear h hc hs hu
  go_enter Try.func42, Try.ntmps42
  go_upto_region 1 with (fail)
  rw [← hV]
  clear hV
  go_wp2_with (refine wpList_load_part rfl 31 (.tmp 4) rfl (w.heap.size + 1) 0 rfl (At.c x p).toList _ (S0.out.pb.bt).bt0 Try.underlying31 rfl attr_size (At.v x p) rfl ?_)
  refine (racopy_calls x p V S0.out.pb.al HS.out).mono ?_
  rintro e w1 ⟨q, rfl, hC0, hb⟩
  have T1 := Lib.hid (S0.out.on hb)
  have HO := Lib.hid (AOw.of hC0)
  clear hb hC0 S0
  obtain ⟨C, hC⟩ : ∃ C, C = At.c (x) q := ⟨_, rfl⟩
  have hone : C.all (·.oneCell') = true := by rw [hC]; exact c_one _ _
  have hsz : (Try.prog.info? 31).map (·.size) = some C.size := by rw [hC]; exact c_size _ _
  have hold : (zAt : Array Value).size = C.size := by rw [hC]; rfl
  have HZn := Lib.hid (heap_alloc_new w1 (.cells zAt 31))
  obtain ⟨U, hU⟩ : ∃ Zz, Zz = (w1.alloc (.cells zAt 31)).setRow w1.heap.size C := ⟨_, rfl⟩
  obtain ⟨g, hg⟩ : ∃ g, g = w1.heap.size := ⟨_, rfl⟩
  have bu : Below w1.heap.size w1 U := by rw [hU]; exact put_below w1 C
  have S1 : Hid (Wk w U g (x) q (w.heap.size + 2) zAt) := Lib.hid (by rw [hU, hg, hC]; exact Wk.fresh HO.out ⟨T1.out.rz, T1.out.hr⟩ T1.out.pb.be)
  have T2 := Lib.hid (T1.out.pb.on bu)
  rw [show At.v (x) q = .agg C by rw [hC]]
  clear hC bu T1 HO
  go_upto_region 2 with (refine wpList_store_rowTo rfl 31 (.tmp 7) (.tmp 9) rfl rfl w1.heap.size C rfl rfl 31 _ HZn.out hsz hold hone ?_; rw [← hU])
  clear hU HZn hsz hold hone
  rw [← hg]
  clear hg
  have yc0 := T2.out.cb.c0
  rw [HU.out] at yc0
  have y2 := T2.out.bt.c2
  by_cases h1 : k = 1
  case neg =>
    have d1 : ((k : Int) == 1) = false := by rw [beq_eq_false_iff_ne]; omega
    have HG : Hid (lostA c x k = x) := Lib.hid (by unfold lostA; rw [HLB.out, decide_eq_false h1]; rfl)
    clear h1
    go_upto_region 4 with (fail)
    clear d1 yc0 y2
    obtain ⟨C, hC⟩ : ∃ C, C = At.c (x) q := ⟨_, rfl⟩
    have hone : C.all (·.oneCell') = true := by rw [hC]; exact c_one _ _
    have hsz : (Try.prog.info? 31).map (·.size) = some C.size := by rw [hC]; exact c_size _ _
    have hold : (zAt : Array Value).size = C.size := by rw [hC]; rfl
    have HBT : Hid ((World.heap U)[g]? = some (.cells C 31 (0, 0))) := Lib.hid (by rw [hC]; exact S1.out.bt)
    obtain ⟨Z, hZ⟩ : ∃ Z, Z = World.setRow U (w.heap.size + 2) C := ⟨_, rfl⟩
    have HR := Lib.hid (S1.out.res C)
    rw [← hZ] at HR
    have HC := Lib.hid hC
    have HZZ := Lib.hid hZ
    clear hC hZ
    go_wp2_with (first
      | (refine wpList_load_row rfl 31 (.tmp 7) rfl g rfl 31 C (0, 0) _ HBT.out Try.underlying31 rfl hsz ?_)
      | (refine wpList_store_rowTo rfl 31 (.tmp 6) (.tmp 28) rfl rfl (w.heap.size + 2) C rfl rfl 31 _ S1.out.rb hsz hold hone ?_; rw [← HZZ.out]))
    exact bodyPost_ret (results_cell_row rfl _ _ (w.heap.size + 2) 31 _ (0, 0) _ rfl HR.out.rb Try.underlying31 rfl hsz) rfl ⟨q, by rw [HG.out, HC.out], by rw [HG.out]; exact HR.out.ow, HR.out.be⟩
  case pos =>
  have d1 : ((k : Int) == 1) = true := by rw [h1]; rfl
  have HLB1 : Hid (lostB c x k = (!decide (u = 0) && !inB c x.gi)) := Lib.hid (by rw [HLB.out, decide_eq_true h1]; rfl)
  clear h1 HLB
  by_cases h2 : u = 0
  case pos =>
    have d2 : ((u : Int) != 0) = false := by rw [h2]; rfl
    have HG : Hid (lostA c x k = x) := Lib.hid (by unfold lostA; rw [HLB1.out, decide_eq_true h2]; rfl)
    clear h2
    go_upto_region 4 with (fail)
    clear d1 d2 yc0 y2
    obtain ⟨C, hC⟩ : ∃ C, C = At.c (x) q := ⟨_, rfl⟩
    have hone : C.all (·.oneCell') = true := by rw [hC]; exact c_one _ _
    have hsz : (Try.prog.info? 31).map (·.size) = some C.size := by rw [hC]; exact c_size _ _
    have hold : (zAt : Array Value).size = C.size := by rw [hC]; rfl
    have HBT : Hid ((World.heap U)[g]? = some (.cells C 31 (0, 0))) := Lib.hid (by rw [hC]; exact S1.out.bt)
    obtain ⟨Z, hZ⟩ : ∃ Z, Z = World.setRow U (w.heap.size + 2) C := ⟨_, rfl⟩
    have HR := Lib.hid (S1.out.res C)
    rw [← hZ] at HR
    have HC := Lib.hid hC
    have HZZ := Lib.hid hZ
    clear hC hZ
    go_wp2_with (first
      | (refine wpList_load_row rfl 31 (.tmp 7) rfl g rfl 31 C (0, 0) _ HBT.out Try.underlying31 rfl hsz ?_)
      | (refine wpList_store_rowTo rfl 31 (.tmp 6) (.tmp 28) rfl rfl (w.heap.size + 2) C rfl rfl 31 _ S1.out.rb hsz hold hone ?_; rw [← HZZ.out]))
    exact bodyPost_ret (results_cell_row rfl _ _ (w.heap.size + 2) 31 _ (0, 0) _ rfl HR.out.rb Try.underlying31 rfl hsz) rfl ⟨q, by rw [HG.out, HC.out], by rw [HG.out]; exact HR.out.ow, HR.out.be⟩
  case neg =>
  have d2 : ((u : Int) != 0) = true := by rw [bne_iff_ne]; omega
  have HLB2 : Hid (lostB c x k = (!inB c x.gi)) := Lib.hid (by rw [HLB1.out, decide_eq_false h2]; rfl)
  clear h2 HLB1
  go_wp2_with (refine wpList_load_part rfl 25 (.tmp 3) rfl w.heap.size 0 rfl (Cr.c c A n).toList _ (T2.out.cb).all Try.underlying25 rfl cred_size (Cr.v c A n) rfl ?_)
  refine (rin_calls c A n x.gi U T2.out.cl).mono ?_
  rintro e w2 ⟨rfl, hb⟩
  have S2 := Lib.hid (S1.out.on hb)
  clear hb S1 yc0 y2 T2
  cases hi : inB c x.gi
  case true =>
    have HG : Hid (lostA c x k = x) := Lib.hid (by unfold lostA; rw [HLB2.out, hi]; rfl)
    clear hi
    go_upto_region 4 with (fail)
    clear d1 d2
    obtain ⟨C, hC⟩ : ∃ C, C = At.c (x) q := ⟨_, rfl⟩
    have hone : C.all (·.oneCell') = true := by rw [hC]; exact c_one _ _
    have hsz : (Try.prog.info? 31).map (·.size) = some C.size := by rw [hC]; exact c_size _ _
    have hold : (zAt : Array Value).size = C.size := by rw [hC]; rfl
    have HBT : Hid ((World.heap w2)[g]? = some (.cells C 31 (0, 0))) := Lib.hid (by rw [hC]; exact S2.out.bt)
    obtain ⟨Z, hZ⟩ : ∃ Z, Z = World.setRow w2 (w.heap.size + 2) C := ⟨_, rfl⟩
    have HR := Lib.hid (S2.out.res C)
    rw [← hZ] at HR
    have HC := Lib.hid hC
    have HZZ := Lib.hid hZ
    clear hC hZ
    go_wp2_with (first
      | (refine wpList_load_row rfl 31 (.tmp 7) rfl g rfl 31 C (0, 0) _ HBT.out Try.underlying31 rfl hsz ?_)
      | (refine wpList_store_rowTo rfl 31 (.tmp 6) (.tmp 28) rfl rfl (w.heap.size + 2) C rfl rfl 31 _ S2.out.rb hsz hold hone ?_; rw [← HZZ.out]))
    exact bodyPost_ret (results_cell_row rfl _ _ (w.heap.size + 2) 31 _ (0, 0) _ rfl HR.out.rb Try.underlying31 rfl hsz) rfl ⟨q, by rw [HG.out, HC.out], by rw [HG.out]; exact HR.out.ow, HR.out.be⟩
  case false =>
    have HG : Hid (lostA c x k = withBi x (offN x.bi 2)) := Lib.hid (by unfold lostA; rw [HLB2.out, hi]; rfl)
    have e2 : bits .andNot .u8 (x.bi : Int) 2 = (offN x.bi 2 : Int) := off8 2 (by decide) x.bi hbi
    clear hi
    have y0 := S2.out.bt.c0
    obtain ⟨U2, hU2⟩ : ∃ Zz, Zz = World.setRow w2 g (At.c (withBi x (offN x.bi 2)) q) := ⟨_, rfl⟩
    have S3 := Lib.hid (S2.out.put (S2.out.ow.bi (offN x.bi 2)))
    rw [← hU2] at S3
    go_upto_region 4 with (refine wpList_store_part rfl 5 (.tmp 27) (.tmp 26) rfl rfl g 0 [.int .u8 ((offN x.bi 2 : Nat) : Int)] rfl rfl 31 _ S2.out.bt u8_size (Nat.le_of_ble_eq_true rfl) (one_of rfl) (At.c (withBi x (offN x.bi 2)) q) rfl ?_; rw [← hU2])
    clear d1 d2 y0 e2 hU2 S2
    obtain ⟨C, hC⟩ : ∃ C, C = At.c (withBi x (offN x.bi 2)) q := ⟨_, rfl⟩
    have hone : C.all (·.oneCell') = true := by rw [hC]; exact c_one _ _
    have hsz : (Try.prog.info? 31).map (·.size) = some C.size := by rw [hC]; exact c_size _ _
    have hold : (zAt : Array Value).size = C.size := by rw [hC]; rfl
    have HBT : Hid ((World.heap U2)[g]? = some (.cells C 31 (0, 0))) := Lib.hid (by rw [hC]; exact S3.out.bt)
    obtain ⟨Z, hZ⟩ : ∃ Z, Z = World.setRow U2 (w.heap.size + 2) C := ⟨_, rfl⟩
    have HR := Lib.hid (S3.out.res C)
    rw [← hZ] at HR
    have HC := Lib.hid hC
    have HZZ := Lib.hid hZ
    clear hC hZ
    go_wp2_with (first
      | (refine wpList_load_row rfl 31 (.tmp 7) rfl g rfl 31 C (0, 0) _ HBT.out Try.underlying31 rfl hsz ?_)
      | (refine wpList_store_rowTo rfl 31 (.tmp 6) (.tmp 28) rfl rfl (w.heap.size + 2) C rfl rfl 31 _ S3.out.rb hsz hold hone ?_; rw [← HZZ.out]))
    exact bodyPost_ret (results_cell_row rfl _ _ (w.heap.size + 2) 31 _ (0, 0) _ rfl HR.out.rb Try.underlying31 rfl hsz) rfl ⟨q, by rw [HG.out, HC.out], by rw [HG.out]; exact HR.out.ow, HR.out.be⟩
end Go.Proofs.Ytdioafoikcfhhaa
