/- What is begun, as the document says it. -/
import Derived.Test.YtgdiiicaljidpaaQe
set_option linter.unusedSimpArgs false
set_option linter.unusedVariables false
set_option linter.unusedSimpArgs false
set_option linter.unusedVariables false
namespace Go.Proofs.Ytgdiiicaljidpaa
open Go.RowKit
/-- What the document begins with. -/
def baseX (c : Cr) (x : At) : At := ⟨0, c.ui, gidN c x, acZ, false, acZ, []⟩
set_option maxRecDepth 100000 in
set_option maxHeartbeats 8000000 in
theorem rnew_calls (c : Cr) (A : Option Addr) (n u : Nat) (x : At) (p : ALie) (k m : Nat) (w : World) (hc : CLies w c A) (h : ALies w x p) (hs : ASm x) (hks : Ks x) (hu : u < 65536) (hm6 : m < 65536) :
    Calls Try.prog 12 #[c.v A n, .int .u16 (u : Nat), x.v p, .int .u8 (k : Nat), .int .u16 (m : Nat)] w fun e w' => ∃ q, e = .returned (.tuple #[At.v (newA c u x k m) q, .int .i64 (newN c x k)]) ∧ AOw w' (newA c u x k m) q ∧ Below w.heap.size w w' := by
  obtain ⟨V, hV⟩ : ∃ V, V = ((w.alloc (.cells (c.c A n) 25)).alloc (.cells (x.c p) 31)).alloc (.cells zAt 31) := ⟨_, rfl⟩
  have S0 : Hid (Py w V c A n x p) := Lib.hid (by rw [hV]; exact Py.start hc h)
  have HS := Lib.hid hs
  have HKS := Lib.hid hks
  obtain ⟨X, hX⟩ : ∃ X, newA c u x k m = X := ⟨_, rfl⟩
  obtain ⟨N, hN⟩ : ∃ N, newN c x k = N := ⟨_, rfl⟩
  rw [hX, hN]
  have HX := Lib.hid hX
  have HN := Lib.hid hN
  clear h hc hs hX hN hks
  go_enter Try.func12, Try.ntmps12
  go_upto_region 1 with (fail)
  rw [← hV]
  clear hV
  go_wp2_with (first
  | (refine wpList_load_part rfl 25 (.tmp 5) rfl w.heap.size 0 rfl (Cr.c c A n).toList _ (S0.out.pb.cb).all Try.underlying25 rfl cred_size (Cr.v c A n) rfl ?_)
  | (refine wpList_load_part rfl 31 (.tmp 7) rfl (w.heap.size + 1) 0 rfl (At.c x p).toList _ (S0.out.pb.bt).bt0 Try.underlying31 rfl attr_size (At.v x p) rfl ?_))
  refine (rbmay_calls c A n x p k V S0.out.pb.cl S0.out.pb.al HS.out HKS.out).mono ?_
  rintro e w1 ⟨rfl, hb⟩
  have S1 := Lib.hid (S0.out.on hb)
  clear hb S0
  cases hv : begB c x k
  case false =>
    have HA : Hid (X = atZ) := Lib.hid (by rw [← HX.out]; unfold newA; rw [hv]; rfl)
    have HN2 : Hid (N = 622) := Lib.hid (by rw [← HN.out]; unfold newN; rw [hv]; rfl)
    clear hv
    have hone : (zAt).all (·.oneCell') = true := by rw [← Array.all_toList]; rfl
    obtain ⟨Z, hZ⟩ : ∃ Z, Z = World.setRow w1 (w.heap.size + 2) zAt := ⟨_, rfl⟩
    have HR : Hid (Z.heap[(w.heap.size + 2)]? = some (.cells zAt 31 (0, 0))) := Lib.hid (by rw [hZ]; exact setRow_heap _ _ _ _ _ _ S1.out.rz)
    have HBZ : Hid (Below w.heap.size w Z) := Lib.hid (by rw [hZ]; exact below_setRow S1.out.pb.be S1.out.hr _)
    have HZZ := Lib.hid hZ
    clear hZ
    go_wp2_with (first
      | (refine wpList_buildTo rfl 31 #[] rfl (some 19) rfl zAt (by kernel_rfl) ?_)
      | (refine wpList_store_rowTo rfl 31 (.tmp 10) (.tmp 19) rfl rfl (w.heap.size + 2) zAt rfl rfl 31 _ S1.out.rz attr_size rfl hone ?_; rw [← HZZ.out]))
    exact bodyPost_ret (results_row_tmp rfl _ _ (w.heap.size + 2) 31 zAt (0, 0) _ (.int .i64 622) rfl HR.out rfl Try.underlying31 rfl attr_size) rfl ⟨alieZ, by rw [HA.out, HN2.out]; rfl, by rw [HA.out]; exact AOw.z _, HBZ.out⟩
  case true =>
  obtain ⟨hvb, k1, k3⟩ := beg_parts hv
  have HM := Lib.hid (valid_parts hvb).2
  have HB8 := Lib.hid (may8 HM.out)
  have HN2 : Hid (N = 0) := Lib.hid (by rw [← HN.out]; unfold newN; rw [hv]; rfl)
  have HBEG := Lib.hid hv
  clear hv hvb HN
  have z0 := S1.out.cb.c0
  have z1 := S1.out.cb.c1
  have HZn := Lib.hid (heap_alloc_new w1 (.cells zAt 31))
  obtain ⟨U, hU⟩ : ∃ Zz, Zz = (w1.alloc (.cells zAt 31)).setRow w1.heap.size (At.c ⟨0, c.ui, c.gi, acZ, false, acZ, []⟩ alieZ) := ⟨_, rfl⟩
  obtain ⟨g, hg⟩ : ∃ Zz, Zz = w1.heap.size := ⟨_, rfl⟩
  have bu : Below w1.heap.size w1 U := by rw [hU]; exact put_below w1 _
  have T0 := Lib.hid (S1.out.on bu)
  have H0 : Hid (Ho U g ⟨0, c.ui, c.gi, acZ, false, acZ, []⟩ alieZ) := Lib.hid (by rw [hU, hg]; exact Ho.fresh ⟨.z _, .z _, OwnR.nil _ _ _⟩)
  have HG : Hid (w.heap.size + 3 ≤ g) := Lib.hid (by have := lt_of_cells S1.out.rz; omega)
  have HU := Lib.hid hU
  clear hU bu
  go_upto_region 4 with (refine wpList_store_rowTo rfl 31 (.tmp 12) (.tmp 24) rfl rfl w1.heap.size (At.c ⟨0, c.ui, c.gi, acZ, false, acZ, []⟩ alieZ) rfl rfl 31 _ HZn.out attr_size rfl (c_one _ _) ?_; rw [← HU.out])
  clear HU HZn S1 z0 z1
  rw [← hg]
  clear hg
  have hb8 := HB8.out
  have e0 : bits .and .u8 (x.bi : Int) 2 = ((x.bi &&& 2 : Nat) : Int) := and8 x.bi 2 (by omega) (by decide)
  have y0 := T0.out.bt.c0
  have y2 := T0.out.bt.c2
  have hor : (x.bi &&& 2 = 0 ∧ gidN c x = c.gi) ∨ (x.bi &&& 2 ≠ 0 ∧ gidN c x = x.gi) := by
    unfold gidN
    by_cases h0 : x.bi &&& 2 = 0
    · exact .inl ⟨h0, if_pos h0⟩
    · exact .inr ⟨h0, if_neg h0⟩
  have main : ∀ (U1 : World) (T1 : Hid (Py w U1 c A n x p)) (H1 : Hid (Ho U1 g (baseX c x) alieZ)), True := fun _ _ _ => trivial
  clear main
  generalize x.bi &&& 2 = b2 at *
  rcases hor with ⟨hz, hgd⟩ | ⟨hz, hgd⟩
  · have d0 : ((b2 : Int) != 0) = false := by rw [bne_eq_false_iff_eq]; omega
    have H1 : Hid (Ho U g (baseX c x) alieZ) := Lib.hid (by unfold baseX; rw [hgd]; exact H0.out)
    clear hz hgd H0
    go_upto_region 6 with (fail)
    clear e0 y0 y2 d0
    have h3 : k = 1 ∨ k = 2 ∨ k = 3 := by omega
    clear k1 k3
    rcases h3 with rfl | rfl | rfl
    · go_wp2_with (first
      | (refine wpList_load_part rfl 25 (.tmp 5) rfl w.heap.size 0 rfl (Cr.c c A n).toList _ (T0.out.pb.cb).all Try.underlying25 rfl cred_size (Cr.v c A n) rfl ?_)
      | (refine wpList_load_part rfl 31 (.tmp 7) rfl (w.heap.size + 1) 0 rfl (At.c x p).toList _ (T0.out.pb.bt).bt0 Try.underlying31 rfl attr_size (At.v x p) rfl ?_))
      refine (raccess_calls u m x p U T0.out.pb.al HS.out HM.out hu hm6).mono ?_
      rintro e w4 ⟨ql, rfl, hol, hb⟩
      have S4 := Lib.hid (T0.out.on hb)
      have H4 := Lib.hid (H1.out.on hb)
      have HL := Lib.hid hol
      clear hb hol T0 H1
      obtain ⟨L, hL⟩ : ∃ L, accA x u m = L := ⟨_, rfl⟩
      rw [hL] at HL ⊢
      have HLL := Lib.hid hL
      clear hL
      obtain ⟨U5, hU5⟩ : ∃ Zz, Zz = World.setRow w4 g (At.c (withAc (baseX c x) L) ⟨ql, lieZ, none, 0⟩) := ⟨_, rfl⟩
      have HN := Lib.hid (H4.out.put (show AOw w4 (withAc (baseX c x) L) ⟨ql, lieZ, none, 0⟩ from H4.out.ow.acc HL.out))
      have SN := Lib.hid (S4.out.turn HG.out (At.c (withAc (baseX c x) L) ⟨ql, lieZ, none, 0⟩))
      rw [← hU5] at HN SN
      go_upto_region 10 with (refine wpList_store_part rfl 28 (.tmp 41) (.tmp 40) rfl rfl g 3 (Ac.c (L) ql).toList rfl rfl 31 _ H4.out.bt acl_size (Nat.le_of_ble_eq_true rfl) (acl_one _ _) (At.c (withAc (baseX c x) L) ⟨ql, lieZ, none, 0⟩) rfl ?_; rw [← hU5])
      clear hU5 S4 H4 
      have S5 := SN
      have H5 := HN
      clear SN HN
      obtain ⟨b, hb⟩ : ∃ b, m / 512 % 8 = b := ⟨_, rfl⟩
      have hb8 : b < 8 := by omega
      have f1 : (m : Int) / 512 % 8 = (b : Int) := by omega
      have hbu : IntKind.u8.wrap (b : Int) = (b : Int) := by rw [IntKind.wrap_u8]; omega
      have HB := Lib.hid hb
      clear hb
      obtain ⟨U6, hU6⟩ : ∃ Zz, Zz = World.setRow U5 g (At.c (withBi (withAc (baseX c x) L) b) ⟨ql, lieZ, none, 0⟩) := ⟨_, rfl⟩
      have HN := Lib.hid (H5.out.put (show AOw U5 (withBi (withAc (baseX c x) L) b) ⟨ql, lieZ, none, 0⟩ from H5.out.ow.bi b))
      have SN := Lib.hid (S5.out.turn HG.out (At.c (withBi (withAc (baseX c x) L) b) ⟨ql, lieZ, none, 0⟩))
      rw [← hU6] at HN SN
      go_upto_region 13 with (refine wpList_store_part rfl 5 (.tmp 49) (.tmp 48) rfl rfl g 0 [.int .u8 ((b : Nat) : Int)] rfl rfl 31 _ H5.out.bt u8_size (Nat.le_of_ble_eq_true rfl) (one_of rfl) (At.c (withBi (withAc (baseX c x) L) b) ⟨ql, lieZ, none, 0⟩) rfl ?_; rw [← hU6])
      clear hU6 S5 H5 
      have S6 := SN
      have H6 := HN
      clear SN HN
      have z0 := S6.out.cb.c0
      have yg : U6.cell? ⟨g, 2, none⟩ = some (.int .u16 (gidN c x : Nat)) := H6.out.bt.c2
      obtain ⟨cu, hcu⟩ : ∃ z, c.ui = z := ⟨_, rfl⟩
      rw [hcu] at z0
      have HCU := Lib.hid hcu
      clear hcu f1 hbu
      by_cases h0 : cu = 0
      case pos =>
        have d0 : ((cu : Int) != 0) = false := by rw [bne_eq_false_iff_eq]; omega
        have HV : Hid (X = withBi (withAc (baseX c x) L) b) := Lib.hid (by
          have hs : setB c x 1 (gidN c x) m = b := by
            unfold setB
            rw [HB.out, HCU.out, decide_eq_true h0]
            rfl
          rw [← HX.out, ← HLL.out, ← hs]
          unfold newA
          rw [HBEG.out]
          rfl)
        clear h0
        obtain ⟨C, hC⟩ : ∃ C, C = At.c (withBi (withAc (baseX c x) L) b) ⟨ql, lieZ, none, 0⟩ := ⟨_, rfl⟩
        have hone : C.all (·.oneCell') = true := by rw [hC]; exact c_one _ _
        have hsz : (Try.prog.info? 31).map (·.size) = some C.size := by rw [hC]; exact c_size _ _
        have hold : (zAt : Array Value).size = C.size := by rw [hC]; rfl
        have HBT : Hid ((World.heap U6)[g]? = some (.cells C 31 (0, 0))) := Lib.hid (by rw [hC]; exact H6.out.bt)
        obtain ⟨Z, hZ⟩ : ∃ Z, Z = World.setRow U6 (w.heap.size + 2) C := ⟨_, rfl⟩
        have HR : Hid (Z.heap[(w.heap.size + 2)]? = some (.cells C 31 (0, 0))) := Lib.hid (by rw [hZ]; exact setRow_heap _ _ _ _ _ _ S6.out.rz)
        have HOR := Lib.hid (H6.out.ow.turn S6.out.rz C)
        have HBR : Hid (Below w.heap.size w Z) := Lib.hid (by rw [hZ]; exact below_setRow S6.out.pb.be S6.out.hr _)
        rw [← hZ] at HOR
        have HC := Lib.hid hC
        have HZZ := Lib.hid hZ
        clear hC hZ
        go_wp2_with (first
          | (refine wpList_load_row rfl 31 (.tmp 12) rfl g rfl 31 C (0, 0) _ HBT.out Try.underlying31 rfl hsz ?_)
          | (refine wpList_store_rowTo rfl 31 (.tmp 10) (.tmp 64) rfl rfl (w.heap.size + 2) C rfl rfl 31 _ S6.out.rz hsz hold hone ?_; rw [← HZZ.out]))
        exact bodyPost_ret (results_row_tmp rfl _ _ (w.heap.size + 2) 31 C (0, 0) _ (.int .i64 0) rfl HR.out rfl Try.underlying31 rfl hsz) rfl ⟨⟨ql, lieZ, none, 0⟩, by rw [HV.out, HN2.out, HC.out], by rw [HV.out]; exact HOR.out, HBR.out⟩
      case neg =>
        have d0 : ((cu : Int) != 0) = true := by rw [bne_iff_ne]; omega
        go_wp2_with (first
      | (refine wpList_load_part rfl 25 (.tmp 5) rfl w.heap.size 0 rfl (Cr.c c A n).toList _ (S6.out.pb.cb).all Try.underlying25 rfl cred_size (Cr.v c A n) rfl ?_)
      | (refine wpList_load_part rfl 31 (.tmp 7) rfl (w.heap.size + 1) 0 rfl (At.c x p).toList _ (S6.out.pb.bt).bt0 Try.underlying31 rfl attr_size (At.v x p) rfl ?_))
        refine (rin_calls c A n (gidN c x) U6 S6.out.pb.cl).mono ?_
        rintro e w7 ⟨rfl, hb⟩
        have S7 := Lib.hid (S6.out.on hb)
        have H7 := Lib.hid (H6.out.on hb)
        clear hb S6 H6 z0 yg d0
        have HS0 : Hid (setB c x 1 (gidN c x) m = if inB c (gidN c x) then b else offN b 2) := Lib.hid (by
          unfold setB
          rw [HB.out, HCU.out, decide_eq_false h0]
          rfl)
        clear h0
        cases hi : inB c (gidN c x)
        case true =>
          have HV : Hid (X = withBi (withAc (baseX c x) L) b) := Lib.hid (by
            have hs : setB c x 1 (gidN c x) m = b := by rw [HS0.out, hi]; rfl
            rw [← HX.out, ← HLL.out, ← hs]
            unfold newA
            rw [HBEG.out]
            rfl)
          clear hi HS0
          obtain ⟨C, hC⟩ : ∃ C, C = At.c (withBi (withAc (baseX c x) L) b) ⟨ql, lieZ, none, 0⟩ := ⟨_, rfl⟩
          have hone : C.all (·.oneCell') = true := by rw [hC]; exact c_one _ _
          have hsz : (Try.prog.info? 31).map (·.size) = some C.size := by rw [hC]; exact c_size _ _
          have hold : (zAt : Array Value).size = C.size := by rw [hC]; rfl
          have HBT : Hid ((World.heap w7)[g]? = some (.cells C 31 (0, 0))) := Lib.hid (by rw [hC]; exact H7.out.bt)
          obtain ⟨Z, hZ⟩ : ∃ Z, Z = World.setRow w7 (w.heap.size + 2) C := ⟨_, rfl⟩
          have HR : Hid (Z.heap[(w.heap.size + 2)]? = some (.cells C 31 (0, 0))) := Lib.hid (by rw [hZ]; exact setRow_heap _ _ _ _ _ _ S7.out.rz)
          have HOR := Lib.hid (H7.out.ow.turn S7.out.rz C)
          have HBR : Hid (Below w.heap.size w Z) := Lib.hid (by rw [hZ]; exact below_setRow S7.out.pb.be S7.out.hr _)
          rw [← hZ] at HOR
          have HC := Lib.hid hC
          have HZZ := Lib.hid hZ
          clear hC hZ
          go_wp2_with (first
            | (refine wpList_load_row rfl 31 (.tmp 12) rfl g rfl 31 C (0, 0) _ HBT.out Try.underlying31 rfl hsz ?_)
            | (refine wpList_store_rowTo rfl 31 (.tmp 10) (.tmp 64) rfl rfl (w.heap.size + 2) C rfl rfl 31 _ S7.out.rz hsz hold hone ?_; rw [← HZZ.out]))
          exact bodyPost_ret (results_row_tmp rfl _ _ (w.heap.size + 2) 31 C (0, 0) _ (.int .i64 0) rfl HR.out rfl Try.underlying31 rfl hsz) rfl ⟨⟨ql, lieZ, none, 0⟩, by rw [HV.out, HN2.out, HC.out], by rw [HV.out]; exact HOR.out, HBR.out⟩
        case false =>
          have HV : Hid (X = withBi (withAc (baseX c x) L) (offN b 2)) := Lib.hid (by
            have hs : setB c x 1 (gidN c x) m = offN b 2 := by rw [HS0.out, hi]; rfl
            rw [← HX.out, ← HLL.out, ← hs]
            unfold newA
            rw [HBEG.out]
            rfl)
          have a1 : bits .andNot .u8 (b : Int) 2 = ((offN b 2 : Nat) : Int) := off8' 2 (by decide) b hb8
          have y0 : w7.cell? ⟨g, 0, none⟩ = some (.int .u8 (b : Nat)) := H7.out.bt.c0
          clear hi HS0
          obtain ⟨b2, hb2⟩ : ∃ z, offN b 2 = z := ⟨_, rfl⟩
          rw [hb2] at a1 HV
          clear hb2
          obtain ⟨U8, hU8⟩ : ∃ Zz, Zz = World.setRow w7 g (At.c (withBi (withAc (baseX c x) L) b2) ⟨ql, lieZ, none, 0⟩) := ⟨_, rfl⟩
          have HN := Lib.hid (H7.out.put (show AOw w7 (withBi (withAc (baseX c x) L) b2) ⟨ql, lieZ, none, 0⟩ from H7.out.ow.bi b2))
          have SN := Lib.hid (S7.out.turn HG.out (At.c (withBi (withAc (baseX c x) L) b2) ⟨ql, lieZ, none, 0⟩))
          rw [← hU8] at HN SN
          go_upto_region 15 with (refine wpList_store_part rfl 5 (.tmp 63) (.tmp 62) rfl rfl g 0 [.int .u8 ((b2 : Nat) : Int)] rfl rfl 31 _ H7.out.bt u8_size (Nat.le_of_ble_eq_true rfl) (one_of rfl) (At.c (withBi (withAc (baseX c x) L) b2) ⟨ql, lieZ, none, 0⟩) rfl ?_; rw [← hU8])
          clear hU8 S7 H7 y0 a1
          have S8 := SN
          have H8 := HN
          clear SN HN
          obtain ⟨C, hC⟩ : ∃ C, C = At.c (withBi (withAc (baseX c x) L) b2) ⟨ql, lieZ, none, 0⟩ := ⟨_, rfl⟩
          have hone : C.all (·.oneCell') = true := by rw [hC]; exact c_one _ _
          have hsz : (Try.prog.info? 31).map (·.size) = some C.size := by rw [hC]; exact c_size _ _
          have hold : (zAt : Array Value).size = C.size := by rw [hC]; rfl
          have HBT : Hid ((World.heap U8)[g]? = some (.cells C 31 (0, 0))) := Lib.hid (by rw [hC]; exact H8.out.bt)
          obtain ⟨Z, hZ⟩ : ∃ Z, Z = World.setRow U8 (w.heap.size + 2) C := ⟨_, rfl⟩
          have HR : Hid (Z.heap[(w.heap.size + 2)]? = some (.cells C 31 (0, 0))) := Lib.hid (by rw [hZ]; exact setRow_heap _ _ _ _ _ _ S8.out.rz)
          have HOR := Lib.hid (H8.out.ow.turn S8.out.rz C)
          have HBR : Hid (Below w.heap.size w Z) := Lib.hid (by rw [hZ]; exact below_setRow S8.out.pb.be S8.out.hr _)
          rw [← hZ] at HOR
          have HC := Lib.hid hC
          have HZZ := Lib.hid hZ
          clear hC hZ
          go_wp2_with (first
            | (refine wpList_load_row rfl 31 (.tmp 12) rfl g rfl 31 C (0, 0) _ HBT.out Try.underlying31 rfl hsz ?_)
            | (refine wpList_store_rowTo rfl 31 (.tmp 10) (.tmp 64) rfl rfl (w.heap.size + 2) C rfl rfl 31 _ S8.out.rz hsz hold hone ?_; rw [← HZZ.out]))
          exact bodyPost_ret (results_row_tmp rfl _ _ (w.heap.size + 2) 31 C (0, 0) _ (.int .i64 0) rfl HR.out rfl Try.underlying31 rfl hsz) rfl ⟨⟨ql, lieZ, none, 0⟩, by rw [HV.out, HN2.out, HC.out], by rw [HV.out]; exact HOR.out, HBR.out⟩
    · go_wp2_with (first
      | (refine wpList_load_part rfl 25 (.tmp 5) rfl w.heap.size 0 rfl (Cr.c c A n).toList _ (T0.out.pb.cb).all Try.underlying25 rfl cred_size (Cr.v c A n) rfl ?_)
      | (refine wpList_load_part rfl 31 (.tmp 7) rfl (w.heap.size + 1) 0 rfl (At.c x p).toList _ (T0.out.pb.bt).bt0 Try.underlying31 rfl attr_size (At.v x p) rfl ?_))
      refine (raccess_calls u m x p U T0.out.pb.al HS.out HM.out hu hm6).mono ?_
      rintro e w4 ⟨ql, rfl, hol, hb⟩
      have S4 := Lib.hid (T0.out.on hb)
      have H4 := Lib.hid (H1.out.on hb)
      have HL := Lib.hid hol
      clear hb hol T0 H1
      obtain ⟨L, hL⟩ : ∃ L, accA x u m = L := ⟨_, rfl⟩
      rw [hL] at HL ⊢
      have HLL := Lib.hid hL
      clear hL
      obtain ⟨U5, hU5⟩ : ∃ Zz, Zz = World.setRow w4 g (At.c (withAc (baseX c x) L) ⟨ql, lieZ, none, 0⟩) := ⟨_, rfl⟩
      have HN := Lib.hid (H4.out.put (show AOw w4 (withAc (baseX c x) L) ⟨ql, lieZ, none, 0⟩ from H4.out.ow.acc HL.out))
      have SN := Lib.hid (S4.out.turn HG.out (At.c (withAc (baseX c x) L) ⟨ql, lieZ, none, 0⟩))
      rw [← hU5] at HN SN
      go_upto_region 10 with (refine wpList_store_part rfl 28 (.tmp 41) (.tmp 40) rfl rfl g 3 (Ac.c (L) ql).toList rfl rfl 31 _ H4.out.bt acl_size (Nat.le_of_ble_eq_true rfl) (acl_one _ _) (At.c (withAc (baseX c x) L) ⟨ql, lieZ, none, 0⟩) rfl ?_; rw [← hU5])
      clear hU5 S4 H4 
      have S5 := SN
      have H5 := HN
      clear SN HN
      obtain ⟨b, hb⟩ : ∃ b, m / 512 % 8 = b := ⟨_, rfl⟩
      have hb8 : b < 8 := by omega
      have f1 : (m : Int) / 512 % 8 = (b : Int) := by omega
      have hbu : IntKind.u8.wrap (b : Int) = (b : Int) := by rw [IntKind.wrap_u8]; omega
      have HB := Lib.hid hb
      clear hb
      have y0 := S5.out.bt.c0
      have hbx := HB8.out
      obtain ⟨bi, hbi⟩ : ∃ z, x.bi = z := ⟨_, rfl⟩
      rw [hbi] at y0 hbx
      have HBI := Lib.hid hbi
      clear hbi
      have a1 : bits .and .u8 (b : Int) 1 = ((b &&& 1 : Nat) : Int) := and8 b 1 (by omega) (by decide)
      have a2 : bits .and .u8 (bi : Int) 2 = ((bi &&& 2 : Nat) : Int) := and8 bi 2 (by omega) (by decide)
      have a3 : bits .or .u8 ((b &&& 1 : Nat) : Int) ((bi &&& 2 : Nat) : Int) = (((b &&& 1) ||| (bi &&& 2) : Nat) : Int) := or8 (b &&& 1) (bi &&& 2) (by have := and_le b 1; omega) (by have := and_le bi 2; omega)
      have HV : Hid (X = withDf (withBi (withAc (baseX c x) L) ((b &&& 1) ||| (bi &&& 2))) x.hd x.df) := Lib.hid (by
        have hs : setB c x 2 (gidN c x) m = (b &&& 1) ||| (bi &&& 2) := by
          unfold setB
          rw [HB.out, HBI.out]
          rfl
        rw [← HX.out, ← HLL.out, ← hs]
        unfold newA
        rw [HBEG.out]
        rfl)
      generalize b &&& 1 = b1 at *
      generalize bi &&& 2 = b2 at *
      generalize b1 ||| b2 = b3 at *
      obtain ⟨U6, hU6⟩ : ∃ Zz, Zz = World.setRow U5 g (At.c (withBi (withAc (baseX c x) L) b3) ⟨ql, lieZ, none, 0⟩) := ⟨_, rfl⟩
      have HN := Lib.hid (H5.out.put (show AOw U5 (withBi (withAc (baseX c x) L) b3) ⟨ql, lieZ, none, 0⟩ from H5.out.ow.bi b3))
      have SN := Lib.hid (S5.out.turn HG.out (At.c (withBi (withAc (baseX c x) L) b3) ⟨ql, lieZ, none, 0⟩))
      rw [← hU6] at HN SN
      go_upto_region 17 with (refine wpList_store_part rfl 5 (.tmp 71) (.tmp 70) rfl rfl g 0 [.int .u8 ((b3 : Nat) : Int)] rfl rfl 31 _ H5.out.bt u8_size (Nat.le_of_ble_eq_true rfl) (one_of rfl) (At.c (withBi (withAc (baseX c x) L) b3) ⟨ql, lieZ, none, 0⟩) rfl ?_; rw [← hU6])
      clear hU6 S5 H5 y0 a1 a2 a3
      have S6 := SN
      have H6 := HN
      clear SN HN
      clear f1 hbu
      have y10 := S6.out.bt.c10
      obtain ⟨y, hy⟩ : ∃ y, y = withBi (withAc (baseX c x) L) b3 := ⟨_, rfl⟩
      rw [← hy] at H6 HV
      clear hy
      obtain ⟨U7, hU7⟩ : ∃ Zz, Zz = World.setRow U6 g (At.c (withDf y x.hd y.df) ⟨ql, lieZ, none, 0⟩) := ⟨_, rfl⟩
      have HN := Lib.hid (H6.out.put (show AOw U6 (withDf y x.hd y.df) ⟨ql, lieZ, none, 0⟩ from H6.out.ow.dfl x.hd H6.out.ow.df))
      have SN := Lib.hid (S6.out.turn HG.out (At.c (withDf y x.hd y.df) ⟨ql, lieZ, none, 0⟩))
      rw [← hU7] at HN SN
      go_upto_region 18 with (refine wpList_store_part rfl 4 (.tmp 74) (.tmp 73) rfl rfl g 10 [.bool x.hd] rfl rfl 31 _ H6.out.bt bool_size (Nat.le_of_ble_eq_true rfl) (one_of rfl) (At.c (withDf y x.hd y.df) ⟨ql, lieZ, none, 0⟩) rfl ?_; rw [← hU7])
      clear hU7 S6 H6 y10
      have S7 := SN
      have H7 := HN
      clear SN HN
      go_wp2_with (refine wpList_load_part rfl 28 (.tmp 75) rfl (w.heap.size + 1) 11 rfl (Ac.c x.df p.q).toList _ S7.out.bt.df Try.underlying28 rfl acl_size (Ac.v x.df p.q) rfl ?_)
      refine (rcopy_calls x.df p.q U7 S7.out.pb.al.df HS.out.df).mono ?_
      rintro e w8 ⟨q2, rfl, hC, hb⟩
      have S8 := Lib.hid (S7.out.on hb)
      have H8 := Lib.hid (H7.out.on hb)
      have HQ := Lib.hid (LiesO.of hC)
      clear hb hC S7 H7
      obtain ⟨U9, hU9⟩ : ∃ Zz, Zz = World.setRow w8 g (At.c (withDf y x.hd x.df) ⟨ql, q2, none, 0⟩) := ⟨_, rfl⟩
      have HN := Lib.hid (H8.out.put (show AOw w8 (withDf y x.hd x.df) ⟨ql, q2, none, 0⟩ from H8.out.ow.dfl x.hd HQ.out))
      have SN := Lib.hid (S8.out.turn HG.out (At.c (withDf y x.hd x.df) ⟨ql, q2, none, 0⟩))
      rw [← hU9] at HN SN
      go_upto_region 19 with (refine wpList_store_part rfl 28 (.tmp 78) (.tmp 77) rfl rfl g 11 (Ac.c x.df q2).toList rfl rfl 31 _ H8.out.bt acl_size (Nat.le_of_ble_eq_true rfl) (acl_one _ _) (At.c (withDf y x.hd x.df) ⟨ql, q2, none, 0⟩) rfl ?_; rw [← hU9])
      clear hU9 S8 H8 
      have S9 := SN
      have H9 := HN
      clear SN HN
      obtain ⟨C, hC⟩ : ∃ C, C = At.c (withDf y x.hd x.df) ⟨ql, q2, none, 0⟩ := ⟨_, rfl⟩
      have hone : C.all (·.oneCell') = true := by rw [hC]; exact c_one _ _
      have hsz : (Try.prog.info? 31).map (·.size) = some C.size := by rw [hC]; exact c_size _ _
      have hold : (zAt : Array Value).size = C.size := by rw [hC]; rfl
      have HBT : Hid ((World.heap U9)[g]? = some (.cells C 31 (0, 0))) := Lib.hid (by rw [hC]; exact H9.out.bt)
      obtain ⟨Z, hZ⟩ : ∃ Z, Z = World.setRow U9 (w.heap.size + 2) C := ⟨_, rfl⟩
      have HR : Hid (Z.heap[(w.heap.size + 2)]? = some (.cells C 31 (0, 0))) := Lib.hid (by rw [hZ]; exact setRow_heap _ _ _ _ _ _ S9.out.rz)
      have HOR := Lib.hid (H9.out.ow.turn S9.out.rz C)
      have HBR : Hid (Below w.heap.size w Z) := Lib.hid (by rw [hZ]; exact below_setRow S9.out.pb.be S9.out.hr _)
      rw [← hZ] at HOR
      have HC := Lib.hid hC
      have HZZ := Lib.hid hZ
      clear hC hZ
      go_wp2_with (first
        | (refine wpList_load_row rfl 31 (.tmp 12) rfl g rfl 31 C (0, 0) _ HBT.out Try.underlying31 rfl hsz ?_)
        | (refine wpList_store_rowTo rfl 31 (.tmp 10) (.tmp 79) rfl rfl (w.heap.size + 2) C rfl rfl 31 _ S9.out.rz hsz hold hone ?_; rw [← HZZ.out]))
      exact bodyPost_ret (results_row_tmp rfl _ _ (w.heap.size + 2) 31 C (0, 0) _ (.int .i64 0) rfl HR.out rfl Try.underlying31 rfl hsz) rfl ⟨⟨ql, q2, none, 0⟩, by rw [HV.out, HN2.out, HC.out], by rw [HV.out]; exact HOR.out, HBR.out⟩
    · have HV : Hid (X = linkX c x) := Lib.hid (by
        rw [← HX.out]
        unfold newA
        rw [HBEG.out]
        rfl)
      go_wp2_with (fail)
      refine (rof_calls 511 U (by decide)).mono ?_
      rintro e w4 ⟨rfl, hb⟩
      have S4 := Lib.hid (T0.out.on hb)
      have H4 := Lib.hid (H1.out.on hb)
      clear hb T0 H1
      have hl : LiesO w4 (ofA 511) lieZ := ⟨OwnR.nil _ _ _, OwnR.nil _ _ _⟩
      have HL := Lib.hid hl
      clear hl
      obtain ⟨U5, hU5⟩ : ∃ Zz, Zz = World.setRow w4 g (At.c (linkX c x) alieZ) := ⟨_, rfl⟩
      have HN := Lib.hid (H4.out.put (show AOw w4 (linkX c x) alieZ from H4.out.ow.acc HL.out))
      have SN := Lib.hid (S4.out.turn HG.out (At.c (linkX c x) alieZ))
      rw [← hU5] at HN SN
      go_upto_region 8 with (refine wpList_store_part rfl 28 (.tmp 35) (.tmp 34) rfl rfl g 3 (Ac.c (ofA 511) lieZ).toList rfl rfl 31 _ H4.out.bt acl_size (Nat.le_of_ble_eq_true rfl) (acl_one _ _) (At.c (linkX c x) alieZ) rfl ?_; rw [← hU5])
      clear hU5 S4 H4 
      have S5 := SN
      have H5 := HN
      clear SN HN
      obtain ⟨C, hC⟩ : ∃ C, C = At.c (linkX c x) alieZ := ⟨_, rfl⟩
      have hone : C.all (·.oneCell') = true := by rw [hC]; exact c_one _ _
      have hsz : (Try.prog.info? 31).map (·.size) = some C.size := by rw [hC]; exact c_size _ _
      have hold : (zAt : Array Value).size = C.size := by rw [hC]; rfl
      have HBT : Hid ((World.heap U5)[g]? = some (.cells C 31 (0, 0))) := Lib.hid (by rw [hC]; exact H5.out.bt)
      obtain ⟨Z, hZ⟩ : ∃ Z, Z = World.setRow U5 (w.heap.size + 2) C := ⟨_, rfl⟩
      have HR : Hid (Z.heap[(w.heap.size + 2)]? = some (.cells C 31 (0, 0))) := Lib.hid (by rw [hZ]; exact setRow_heap _ _ _ _ _ _ S5.out.rz)
      have HOR := Lib.hid (H5.out.ow.turn S5.out.rz C)
      have HBR : Hid (Below w.heap.size w Z) := Lib.hid (by rw [hZ]; exact below_setRow S5.out.pb.be S5.out.hr _)
      rw [← hZ] at HOR
      have HC := Lib.hid hC
      have HZZ := Lib.hid hZ
      clear hC hZ
      go_wp2_with (first
        | (refine wpList_load_row rfl 31 (.tmp 12) rfl g rfl 31 C (0, 0) _ HBT.out Try.underlying31 rfl hsz ?_)
        | (refine wpList_store_rowTo rfl 31 (.tmp 10) (.tmp 36) rfl rfl (w.heap.size + 2) C rfl rfl 31 _ S5.out.rz hsz hold hone ?_; rw [← HZZ.out]))
      exact bodyPost_ret (results_row_tmp rfl _ _ (w.heap.size + 2) 31 C (0, 0) _ (.int .i64 0) rfl HR.out rfl Try.underlying31 rfl hsz) rfl ⟨alieZ, by rw [HV.out, HN2.out, HC.out], by rw [HV.out]; exact HOR.out, HBR.out⟩
  · have d0 : ((b2 : Int) != 0) = true := by rw [bne_iff_ne]; omega
    have yx := y2
    clear hz
    obtain ⟨U1, hU1⟩ : ∃ Zz, Zz = World.setRow U g (At.c ((⟨0, c.ui, x.gi, acZ, false, acZ, []⟩ : At)) alieZ) := ⟨_, rfl⟩
    have HN := Lib.hid (H0.out.put (show AOw U ((⟨0, c.ui, x.gi, acZ, false, acZ, []⟩ : At)) alieZ from H0.out.ow.id c.ui x.gi))
    have SN := Lib.hid (T0.out.turn HG.out (At.c ((⟨0, c.ui, x.gi, acZ, false, acZ, []⟩ : At)) alieZ))
    rw [← hU1] at HN SN
    go_upto_region 6 with (refine wpList_store_part rfl 22 (.tmp 31) (.tmp 30) rfl rfl g 2 [.int .u16 ((x.gi : Nat) : Int)] rfl rfl 31 _ H0.out.bt u16_size (Nat.le_of_ble_eq_true rfl) (one_of rfl) (At.c ((⟨0, c.ui, x.gi, acZ, false, acZ, []⟩ : At)) alieZ) rfl ?_; rw [← hU1])
    clear hU1 T0 H0 
    have T1 := SN
    have H1a := HN
    clear SN HN
    have H1 : Hid (Ho U1 g (baseX c x) alieZ) := Lib.hid (by unfold baseX; rw [hgd]; exact H1a.out)
    clear e0 y0 y2 d0 yx hgd H1a
    have h3 : k = 1 ∨ k = 2 ∨ k = 3 := by omega
    clear k1 k3
    rcases h3 with rfl | rfl | rfl
    · go_wp2_with (first
      | (refine wpList_load_part rfl 25 (.tmp 5) rfl w.heap.size 0 rfl (Cr.c c A n).toList _ (T1.out.pb.cb).all Try.underlying25 rfl cred_size (Cr.v c A n) rfl ?_)
      | (refine wpList_load_part rfl 31 (.tmp 7) rfl (w.heap.size + 1) 0 rfl (At.c x p).toList _ (T1.out.pb.bt).bt0 Try.underlying31 rfl attr_size (At.v x p) rfl ?_))
      refine (raccess_calls u m x p U1 T1.out.pb.al HS.out HM.out hu hm6).mono ?_
      rintro e w4 ⟨ql, rfl, hol, hb⟩
      have S4 := Lib.hid (T1.out.on hb)
      have H4 := Lib.hid (H1.out.on hb)
      have HL := Lib.hid hol
      clear hb hol T1 H1
      obtain ⟨L, hL⟩ : ∃ L, accA x u m = L := ⟨_, rfl⟩
      rw [hL] at HL ⊢
      have HLL := Lib.hid hL
      clear hL
      obtain ⟨U5, hU5⟩ : ∃ Zz, Zz = World.setRow w4 g (At.c (withAc (baseX c x) L) ⟨ql, lieZ, none, 0⟩) := ⟨_, rfl⟩
      have HN := Lib.hid (H4.out.put (show AOw w4 (withAc (baseX c x) L) ⟨ql, lieZ, none, 0⟩ from H4.out.ow.acc HL.out))
      have SN := Lib.hid (S4.out.turn HG.out (At.c (withAc (baseX c x) L) ⟨ql, lieZ, none, 0⟩))
      rw [← hU5] at HN SN
      go_upto_region 10 with (refine wpList_store_part rfl 28 (.tmp 41) (.tmp 40) rfl rfl g 3 (Ac.c (L) ql).toList rfl rfl 31 _ H4.out.bt acl_size (Nat.le_of_ble_eq_true rfl) (acl_one _ _) (At.c (withAc (baseX c x) L) ⟨ql, lieZ, none, 0⟩) rfl ?_; rw [← hU5])
      clear hU5 S4 H4 
      have S5 := SN
      have H5 := HN
      clear SN HN
      obtain ⟨b, hb⟩ : ∃ b, m / 512 % 8 = b := ⟨_, rfl⟩
      have hb8 : b < 8 := by omega
      have f1 : (m : Int) / 512 % 8 = (b : Int) := by omega
      have hbu : IntKind.u8.wrap (b : Int) = (b : Int) := by rw [IntKind.wrap_u8]; omega
      have HB := Lib.hid hb
      clear hb
      obtain ⟨U6, hU6⟩ : ∃ Zz, Zz = World.setRow U5 g (At.c (withBi (withAc (baseX c x) L) b) ⟨ql, lieZ, none, 0⟩) := ⟨_, rfl⟩
      have HN := Lib.hid (H5.out.put (show AOw U5 (withBi (withAc (baseX c x) L) b) ⟨ql, lieZ, none, 0⟩ from H5.out.ow.bi b))
      have SN := Lib.hid (S5.out.turn HG.out (At.c (withBi (withAc (baseX c x) L) b) ⟨ql, lieZ, none, 0⟩))
      rw [← hU6] at HN SN
      go_upto_region 13 with (refine wpList_store_part rfl 5 (.tmp 49) (.tmp 48) rfl rfl g 0 [.int .u8 ((b : Nat) : Int)] rfl rfl 31 _ H5.out.bt u8_size (Nat.le_of_ble_eq_true rfl) (one_of rfl) (At.c (withBi (withAc (baseX c x) L) b) ⟨ql, lieZ, none, 0⟩) rfl ?_; rw [← hU6])
      clear hU6 S5 H5 
      have S6 := SN
      have H6 := HN
      clear SN HN
      have z0 := S6.out.cb.c0
      have yg : U6.cell? ⟨g, 2, none⟩ = some (.int .u16 (gidN c x : Nat)) := H6.out.bt.c2
      obtain ⟨cu, hcu⟩ : ∃ z, c.ui = z := ⟨_, rfl⟩
      rw [hcu] at z0
      have HCU := Lib.hid hcu
      clear hcu f1 hbu
      by_cases h0 : cu = 0
      case pos =>
        have d0 : ((cu : Int) != 0) = false := by rw [bne_eq_false_iff_eq]; omega
        have HV : Hid (X = withBi (withAc (baseX c x) L) b) := Lib.hid (by
          have hs : setB c x 1 (gidN c x) m = b := by
            unfold setB
            rw [HB.out, HCU.out, decide_eq_true h0]
            rfl
          rw [← HX.out, ← HLL.out, ← hs]
          unfold newA
          rw [HBEG.out]
          rfl)
        clear h0
        obtain ⟨C, hC⟩ : ∃ C, C = At.c (withBi (withAc (baseX c x) L) b) ⟨ql, lieZ, none, 0⟩ := ⟨_, rfl⟩
        have hone : C.all (·.oneCell') = true := by rw [hC]; exact c_one _ _
        have hsz : (Try.prog.info? 31).map (·.size) = some C.size := by rw [hC]; exact c_size _ _
        have hold : (zAt : Array Value).size = C.size := by rw [hC]; rfl
        have HBT : Hid ((World.heap U6)[g]? = some (.cells C 31 (0, 0))) := Lib.hid (by rw [hC]; exact H6.out.bt)
        obtain ⟨Z, hZ⟩ : ∃ Z, Z = World.setRow U6 (w.heap.size + 2) C := ⟨_, rfl⟩
        have HR : Hid (Z.heap[(w.heap.size + 2)]? = some (.cells C 31 (0, 0))) := Lib.hid (by rw [hZ]; exact setRow_heap _ _ _ _ _ _ S6.out.rz)
        have HOR := Lib.hid (H6.out.ow.turn S6.out.rz C)
        have HBR : Hid (Below w.heap.size w Z) := Lib.hid (by rw [hZ]; exact below_setRow S6.out.pb.be S6.out.hr _)
        rw [← hZ] at HOR
        have HC := Lib.hid hC
        have HZZ := Lib.hid hZ
        clear hC hZ
        go_wp2_with (first
          | (refine wpList_load_row rfl 31 (.tmp 12) rfl g rfl 31 C (0, 0) _ HBT.out Try.underlying31 rfl hsz ?_)
          | (refine wpList_store_rowTo rfl 31 (.tmp 10) (.tmp 64) rfl rfl (w.heap.size + 2) C rfl rfl 31 _ S6.out.rz hsz hold hone ?_; rw [← HZZ.out]))
        exact bodyPost_ret (results_row_tmp rfl _ _ (w.heap.size + 2) 31 C (0, 0) _ (.int .i64 0) rfl HR.out rfl Try.underlying31 rfl hsz) rfl ⟨⟨ql, lieZ, none, 0⟩, by rw [HV.out, HN2.out, HC.out], by rw [HV.out]; exact HOR.out, HBR.out⟩
      case neg =>
        have d0 : ((cu : Int) != 0) = true := by rw [bne_iff_ne]; omega
        go_wp2_with (first
      | (refine wpList_load_part rfl 25 (.tmp 5) rfl w.heap.size 0 rfl (Cr.c c A n).toList _ (S6.out.pb.cb).all Try.underlying25 rfl cred_size (Cr.v c A n) rfl ?_)
      | (refine wpList_load_part rfl 31 (.tmp 7) rfl (w.heap.size + 1) 0 rfl (At.c x p).toList _ (S6.out.pb.bt).bt0 Try.underlying31 rfl attr_size (At.v x p) rfl ?_))
        refine (rin_calls c A n (gidN c x) U6 S6.out.pb.cl).mono ?_
        rintro e w7 ⟨rfl, hb⟩
        have S7 := Lib.hid (S6.out.on hb)
        have H7 := Lib.hid (H6.out.on hb)
        clear hb S6 H6 z0 yg d0
        have HS0 : Hid (setB c x 1 (gidN c x) m = if inB c (gidN c x) then b else offN b 2) := Lib.hid (by
          unfold setB
          rw [HB.out, HCU.out, decide_eq_false h0]
          rfl)
        clear h0
        cases hi : inB c (gidN c x)
        case true =>
          have HV : Hid (X = withBi (withAc (baseX c x) L) b) := Lib.hid (by
            have hs : setB c x 1 (gidN c x) m = b := by rw [HS0.out, hi]; rfl
            rw [← HX.out, ← HLL.out, ← hs]
            unfold newA
            rw [HBEG.out]
            rfl)
          clear hi HS0
          obtain ⟨C, hC⟩ : ∃ C, C = At.c (withBi (withAc (baseX c x) L) b) ⟨ql, lieZ, none, 0⟩ := ⟨_, rfl⟩
          have hone : C.all (·.oneCell') = true := by rw [hC]; exact c_one _ _
          have hsz : (Try.prog.info? 31).map (·.size) = some C.size := by rw [hC]; exact c_size _ _
          have hold : (zAt : Array Value).size = C.size := by rw [hC]; rfl
          have HBT : Hid ((World.heap w7)[g]? = some (.cells C 31 (0, 0))) := Lib.hid (by rw [hC]; exact H7.out.bt)
          obtain ⟨Z, hZ⟩ : ∃ Z, Z = World.setRow w7 (w.heap.size + 2) C := ⟨_, rfl⟩
          have HR : Hid (Z.heap[(w.heap.size + 2)]? = some (.cells C 31 (0, 0))) := Lib.hid (by rw [hZ]; exact setRow_heap _ _ _ _ _ _ S7.out.rz)
          have HOR := Lib.hid (H7.out.ow.turn S7.out.rz C)
          have HBR : Hid (Below w.heap.size w Z) := Lib.hid (by rw [hZ]; exact below_setRow S7.out.pb.be S7.out.hr _)
          rw [← hZ] at HOR
          have HC := Lib.hid hC
          have HZZ := Lib.hid hZ
          clear hC hZ
          go_wp2_with (first
            | (refine wpList_load_row rfl 31 (.tmp 12) rfl g rfl 31 C (0, 0) _ HBT.out Try.underlying31 rfl hsz ?_)
            | (refine wpList_store_rowTo rfl 31 (.tmp 10) (.tmp 64) rfl rfl (w.heap.size + 2) C rfl rfl 31 _ S7.out.rz hsz hold hone ?_; rw [← HZZ.out]))
          exact bodyPost_ret (results_row_tmp rfl _ _ (w.heap.size + 2) 31 C (0, 0) _ (.int .i64 0) rfl HR.out rfl Try.underlying31 rfl hsz) rfl ⟨⟨ql, lieZ, none, 0⟩, by rw [HV.out, HN2.out, HC.out], by rw [HV.out]; exact HOR.out, HBR.out⟩
        case false =>
          have HV : Hid (X = withBi (withAc (baseX c x) L) (offN b 2)) := Lib.hid (by
            have hs : setB c x 1 (gidN c x) m = offN b 2 := by rw [HS0.out, hi]; rfl
            rw [← HX.out, ← HLL.out, ← hs]
            unfold newA
            rw [HBEG.out]
            rfl)
          have a1 : bits .andNot .u8 (b : Int) 2 = ((offN b 2 : Nat) : Int) := off8' 2 (by decide) b hb8
          have y0 : w7.cell? ⟨g, 0, none⟩ = some (.int .u8 (b : Nat)) := H7.out.bt.c0
          clear hi HS0
          obtain ⟨b2, hb2⟩ : ∃ z, offN b 2 = z := ⟨_, rfl⟩
          rw [hb2] at a1 HV
          clear hb2
          obtain ⟨U8, hU8⟩ : ∃ Zz, Zz = World.setRow w7 g (At.c (withBi (withAc (baseX c x) L) b2) ⟨ql, lieZ, none, 0⟩) := ⟨_, rfl⟩
          have HN := Lib.hid (H7.out.put (show AOw w7 (withBi (withAc (baseX c x) L) b2) ⟨ql, lieZ, none, 0⟩ from H7.out.ow.bi b2))
          have SN := Lib.hid (S7.out.turn HG.out (At.c (withBi (withAc (baseX c x) L) b2) ⟨ql, lieZ, none, 0⟩))
          rw [← hU8] at HN SN
          go_upto_region 15 with (refine wpList_store_part rfl 5 (.tmp 63) (.tmp 62) rfl rfl g 0 [.int .u8 ((b2 : Nat) : Int)] rfl rfl 31 _ H7.out.bt u8_size (Nat.le_of_ble_eq_true rfl) (one_of rfl) (At.c (withBi (withAc (baseX c x) L) b2) ⟨ql, lieZ, none, 0⟩) rfl ?_; rw [← hU8])
          clear hU8 S7 H7 y0 a1
          have S8 := SN
          have H8 := HN
          clear SN HN
          obtain ⟨C, hC⟩ : ∃ C, C = At.c (withBi (withAc (baseX c x) L) b2) ⟨ql, lieZ, none, 0⟩ := ⟨_, rfl⟩
          have hone : C.all (·.oneCell') = true := by rw [hC]; exact c_one _ _
          have hsz : (Try.prog.info? 31).map (·.size) = some C.size := by rw [hC]; exact c_size _ _
          have hold : (zAt : Array Value).size = C.size := by rw [hC]; rfl
          have HBT : Hid ((World.heap U8)[g]? = some (.cells C 31 (0, 0))) := Lib.hid (by rw [hC]; exact H8.out.bt)
          obtain ⟨Z, hZ⟩ : ∃ Z, Z = World.setRow U8 (w.heap.size + 2) C := ⟨_, rfl⟩
          have HR : Hid (Z.heap[(w.heap.size + 2)]? = some (.cells C 31 (0, 0))) := Lib.hid (by rw [hZ]; exact setRow_heap _ _ _ _ _ _ S8.out.rz)
          have HOR := Lib.hid (H8.out.ow.turn S8.out.rz C)
          have HBR : Hid (Below w.heap.size w Z) := Lib.hid (by rw [hZ]; exact below_setRow S8.out.pb.be S8.out.hr _)
          rw [← hZ] at HOR
          have HC := Lib.hid hC
          have HZZ := Lib.hid hZ
          clear hC hZ
          go_wp2_with (first
            | (refine wpList_load_row rfl 31 (.tmp 12) rfl g rfl 31 C (0, 0) _ HBT.out Try.underlying31 rfl hsz ?_)
            | (refine wpList_store_rowTo rfl 31 (.tmp 10) (.tmp 64) rfl rfl (w.heap.size + 2) C rfl rfl 31 _ S8.out.rz hsz hold hone ?_; rw [← HZZ.out]))
          exact bodyPost_ret (results_row_tmp rfl _ _ (w.heap.size + 2) 31 C (0, 0) _ (.int .i64 0) rfl HR.out rfl Try.underlying31 rfl hsz) rfl ⟨⟨ql, lieZ, none, 0⟩, by rw [HV.out, HN2.out, HC.out], by rw [HV.out]; exact HOR.out, HBR.out⟩
    · go_wp2_with (first
      | (refine wpList_load_part rfl 25 (.tmp 5) rfl w.heap.size 0 rfl (Cr.c c A n).toList _ (T1.out.pb.cb).all Try.underlying25 rfl cred_size (Cr.v c A n) rfl ?_)
      | (refine wpList_load_part rfl 31 (.tmp 7) rfl (w.heap.size + 1) 0 rfl (At.c x p).toList _ (T1.out.pb.bt).bt0 Try.underlying31 rfl attr_size (At.v x p) rfl ?_))
      refine (raccess_calls u m x p U1 T1.out.pb.al HS.out HM.out hu hm6).mono ?_
      rintro e w4 ⟨ql, rfl, hol, hb⟩
      have S4 := Lib.hid (T1.out.on hb)
      have H4 := Lib.hid (H1.out.on hb)
      have HL := Lib.hid hol
      clear hb hol T1 H1
      obtain ⟨L, hL⟩ : ∃ L, accA x u m = L := ⟨_, rfl⟩
      rw [hL] at HL ⊢
      have HLL := Lib.hid hL
      clear hL
      obtain ⟨U5, hU5⟩ : ∃ Zz, Zz = World.setRow w4 g (At.c (withAc (baseX c x) L) ⟨ql, lieZ, none, 0⟩) := ⟨_, rfl⟩
      have HN := Lib.hid (H4.out.put (show AOw w4 (withAc (baseX c x) L) ⟨ql, lieZ, none, 0⟩ from H4.out.ow.acc HL.out))
      have SN := Lib.hid (S4.out.turn HG.out (At.c (withAc (baseX c x) L) ⟨ql, lieZ, none, 0⟩))
      rw [← hU5] at HN SN
      go_upto_region 10 with (refine wpList_store_part rfl 28 (.tmp 41) (.tmp 40) rfl rfl g 3 (Ac.c (L) ql).toList rfl rfl 31 _ H4.out.bt acl_size (Nat.le_of_ble_eq_true rfl) (acl_one _ _) (At.c (withAc (baseX c x) L) ⟨ql, lieZ, none, 0⟩) rfl ?_; rw [← hU5])
      clear hU5 S4 H4 
      have S5 := SN
      have H5 := HN
      clear SN HN
      obtain ⟨b, hb⟩ : ∃ b, m / 512 % 8 = b := ⟨_, rfl⟩
      have hb8 : b < 8 := by omega
      have f1 : (m : Int) / 512 % 8 = (b : Int) := by omega
      have hbu : IntKind.u8.wrap (b : Int) = (b : Int) := by rw [IntKind.wrap_u8]; omega
      have HB := Lib.hid hb
      clear hb
      have y0 := S5.out.bt.c0
      have hbx := HB8.out
      obtain ⟨bi, hbi⟩ : ∃ z, x.bi = z := ⟨_, rfl⟩
      rw [hbi] at y0 hbx
      have HBI := Lib.hid hbi
      clear hbi
      have a1 : bits .and .u8 (b : Int) 1 = ((b &&& 1 : Nat) : Int) := and8 b 1 (by omega) (by decide)
      have a2 : bits .and .u8 (bi : Int) 2 = ((bi &&& 2 : Nat) : Int) := and8 bi 2 (by omega) (by decide)
      have a3 : bits .or .u8 ((b &&& 1 : Nat) : Int) ((bi &&& 2 : Nat) : Int) = (((b &&& 1) ||| (bi &&& 2) : Nat) : Int) := or8 (b &&& 1) (bi &&& 2) (by have := and_le b 1; omega) (by have := and_le bi 2; omega)
      have HV : Hid (X = withDf (withBi (withAc (baseX c x) L) ((b &&& 1) ||| (bi &&& 2))) x.hd x.df) := Lib.hid (by
        have hs : setB c x 2 (gidN c x) m = (b &&& 1) ||| (bi &&& 2) := by
          unfold setB
          rw [HB.out, HBI.out]
          rfl
        rw [← HX.out, ← HLL.out, ← hs]
        unfold newA
        rw [HBEG.out]
        rfl)
      generalize b &&& 1 = b1 at *
      generalize bi &&& 2 = b2 at *
      generalize b1 ||| b2 = b3 at *
      obtain ⟨U6, hU6⟩ : ∃ Zz, Zz = World.setRow U5 g (At.c (withBi (withAc (baseX c x) L) b3) ⟨ql, lieZ, none, 0⟩) := ⟨_, rfl⟩
      have HN := Lib.hid (H5.out.put (show AOw U5 (withBi (withAc (baseX c x) L) b3) ⟨ql, lieZ, none, 0⟩ from H5.out.ow.bi b3))
      have SN := Lib.hid (S5.out.turn HG.out (At.c (withBi (withAc (baseX c x) L) b3) ⟨ql, lieZ, none, 0⟩))
      rw [← hU6] at HN SN
      go_upto_region 17 with (refine wpList_store_part rfl 5 (.tmp 71) (.tmp 70) rfl rfl g 0 [.int .u8 ((b3 : Nat) : Int)] rfl rfl 31 _ H5.out.bt u8_size (Nat.le_of_ble_eq_true rfl) (one_of rfl) (At.c (withBi (withAc (baseX c x) L) b3) ⟨ql, lieZ, none, 0⟩) rfl ?_; rw [← hU6])
      clear hU6 S5 H5 y0 a1 a2 a3
      have S6 := SN
      have H6 := HN
      clear SN HN
      clear f1 hbu
      have y10 := S6.out.bt.c10
      obtain ⟨y, hy⟩ : ∃ y, y = withBi (withAc (baseX c x) L) b3 := ⟨_, rfl⟩
      rw [← hy] at H6 HV
      clear hy
      obtain ⟨U7, hU7⟩ : ∃ Zz, Zz = World.setRow U6 g (At.c (withDf y x.hd y.df) ⟨ql, lieZ, none, 0⟩) := ⟨_, rfl⟩
      have HN := Lib.hid (H6.out.put (show AOw U6 (withDf y x.hd y.df) ⟨ql, lieZ, none, 0⟩ from H6.out.ow.dfl x.hd H6.out.ow.df))
      have SN := Lib.hid (S6.out.turn HG.out (At.c (withDf y x.hd y.df) ⟨ql, lieZ, none, 0⟩))
      rw [← hU7] at HN SN
      go_upto_region 18 with (refine wpList_store_part rfl 4 (.tmp 74) (.tmp 73) rfl rfl g 10 [.bool x.hd] rfl rfl 31 _ H6.out.bt bool_size (Nat.le_of_ble_eq_true rfl) (one_of rfl) (At.c (withDf y x.hd y.df) ⟨ql, lieZ, none, 0⟩) rfl ?_; rw [← hU7])
      clear hU7 S6 H6 y10
      have S7 := SN
      have H7 := HN
      clear SN HN
      go_wp2_with (refine wpList_load_part rfl 28 (.tmp 75) rfl (w.heap.size + 1) 11 rfl (Ac.c x.df p.q).toList _ S7.out.bt.df Try.underlying28 rfl acl_size (Ac.v x.df p.q) rfl ?_)
      refine (rcopy_calls x.df p.q U7 S7.out.pb.al.df HS.out.df).mono ?_
      rintro e w8 ⟨q2, rfl, hC, hb⟩
      have S8 := Lib.hid (S7.out.on hb)
      have H8 := Lib.hid (H7.out.on hb)
      have HQ := Lib.hid (LiesO.of hC)
      clear hb hC S7 H7
      obtain ⟨U9, hU9⟩ : ∃ Zz, Zz = World.setRow w8 g (At.c (withDf y x.hd x.df) ⟨ql, q2, none, 0⟩) := ⟨_, rfl⟩
      have HN := Lib.hid (H8.out.put (show AOw w8 (withDf y x.hd x.df) ⟨ql, q2, none, 0⟩ from H8.out.ow.dfl x.hd HQ.out))
      have SN := Lib.hid (S8.out.turn HG.out (At.c (withDf y x.hd x.df) ⟨ql, q2, none, 0⟩))
      rw [← hU9] at HN SN
      go_upto_region 19 with (refine wpList_store_part rfl 28 (.tmp 78) (.tmp 77) rfl rfl g 11 (Ac.c x.df q2).toList rfl rfl 31 _ H8.out.bt acl_size (Nat.le_of_ble_eq_true rfl) (acl_one _ _) (At.c (withDf y x.hd x.df) ⟨ql, q2, none, 0⟩) rfl ?_; rw [← hU9])
      clear hU9 S8 H8 
      have S9 := SN
      have H9 := HN
      clear SN HN
      obtain ⟨C, hC⟩ : ∃ C, C = At.c (withDf y x.hd x.df) ⟨ql, q2, none, 0⟩ := ⟨_, rfl⟩
      have hone : C.all (·.oneCell') = true := by rw [hC]; exact c_one _ _
      have hsz : (Try.prog.info? 31).map (·.size) = some C.size := by rw [hC]; exact c_size _ _
      have hold : (zAt : Array Value).size = C.size := by rw [hC]; rfl
      have HBT : Hid ((World.heap U9)[g]? = some (.cells C 31 (0, 0))) := Lib.hid (by rw [hC]; exact H9.out.bt)
      obtain ⟨Z, hZ⟩ : ∃ Z, Z = World.setRow U9 (w.heap.size + 2) C := ⟨_, rfl⟩
      have HR : Hid (Z.heap[(w.heap.size + 2)]? = some (.cells C 31 (0, 0))) := Lib.hid (by rw [hZ]; exact setRow_heap _ _ _ _ _ _ S9.out.rz)
      have HOR := Lib.hid (H9.out.ow.turn S9.out.rz C)
      have HBR : Hid (Below w.heap.size w Z) := Lib.hid (by rw [hZ]; exact below_setRow S9.out.pb.be S9.out.hr _)
      rw [← hZ] at HOR
      have HC := Lib.hid hC
      have HZZ := Lib.hid hZ
      clear hC hZ
      go_wp2_with (first
        | (refine wpList_load_row rfl 31 (.tmp 12) rfl g rfl 31 C (0, 0) _ HBT.out Try.underlying31 rfl hsz ?_)
        | (refine wpList_store_rowTo rfl 31 (.tmp 10) (.tmp 79) rfl rfl (w.heap.size + 2) C rfl rfl 31 _ S9.out.rz hsz hold hone ?_; rw [← HZZ.out]))
      exact bodyPost_ret (results_row_tmp rfl _ _ (w.heap.size + 2) 31 C (0, 0) _ (.int .i64 0) rfl HR.out rfl Try.underlying31 rfl hsz) rfl ⟨⟨ql, q2, none, 0⟩, by rw [HV.out, HN2.out, HC.out], by rw [HV.out]; exact HOR.out, HBR.out⟩
    · have HV : Hid (X = linkX c x) := Lib.hid (by
        rw [← HX.out]
        unfold newA
        rw [HBEG.out]
        rfl)
      go_wp2_with (fail)
      refine (rof_calls 511 U1 (by decide)).mono ?_
      rintro e w4 ⟨rfl, hb⟩
      have S4 := Lib.hid (T1.out.on hb)
      have H4 := Lib.hid (H1.out.on hb)
      clear hb T1 H1
      have hl : LiesO w4 (ofA 511) lieZ := ⟨OwnR.nil _ _ _, OwnR.nil _ _ _⟩
      have HL := Lib.hid hl
      clear hl
      obtain ⟨U5, hU5⟩ : ∃ Zz, Zz = World.setRow w4 g (At.c (linkX c x) alieZ) := ⟨_, rfl⟩
      have HN := Lib.hid (H4.out.put (show AOw w4 (linkX c x) alieZ from H4.out.ow.acc HL.out))
      have SN := Lib.hid (S4.out.turn HG.out (At.c (linkX c x) alieZ))
      rw [← hU5] at HN SN
      go_upto_region 8 with (refine wpList_store_part rfl 28 (.tmp 35) (.tmp 34) rfl rfl g 3 (Ac.c (ofA 511) lieZ).toList rfl rfl 31 _ H4.out.bt acl_size (Nat.le_of_ble_eq_true rfl) (acl_one _ _) (At.c (linkX c x) alieZ) rfl ?_; rw [← hU5])
      clear hU5 S4 H4 
      have S5 := SN
      have H5 := HN
      clear SN HN
      obtain ⟨C, hC⟩ : ∃ C, C = At.c (linkX c x) alieZ := ⟨_, rfl⟩
      have hone : C.all (·.oneCell') = true := by rw [hC]; exact c_one _ _
      have hsz : (Try.prog.info? 31).map (·.size) = some C.size := by rw [hC]; exact c_size _ _
      have hold : (zAt : Array Value).size = C.size := by rw [hC]; rfl
      have HBT : Hid ((World.heap U5)[g]? = some (.cells C 31 (0, 0))) := Lib.hid (by rw [hC]; exact H5.out.bt)
      obtain ⟨Z, hZ⟩ : ∃ Z, Z = World.setRow U5 (w.heap.size + 2) C := ⟨_, rfl⟩
      have HR : Hid (Z.heap[(w.heap.size + 2)]? = some (.cells C 31 (0, 0))) := Lib.hid (by rw [hZ]; exact setRow_heap _ _ _ _ _ _ S5.out.rz)
      have HOR := Lib.hid (H5.out.ow.turn S5.out.rz C)
      have HBR : Hid (Below w.heap.size w Z) := Lib.hid (by rw [hZ]; exact below_setRow S5.out.pb.be S5.out.hr _)
      rw [← hZ] at HOR
      have HC := Lib.hid hC
      have HZZ := Lib.hid hZ
      clear hC hZ
      go_wp2_with (first
        | (refine wpList_load_row rfl 31 (.tmp 12) rfl g rfl 31 C (0, 0) _ HBT.out Try.underlying31 rfl hsz ?_)
        | (refine wpList_store_rowTo rfl 31 (.tmp 10) (.tmp 36) rfl rfl (w.heap.size + 2) C rfl rfl 31 _ S5.out.rz hsz hold hone ?_; rw [← HZZ.out]))
      exact bodyPost_ret (results_row_tmp rfl _ _ (w.heap.size + 2) 31 C (0, 0) _ (.int .i64 0) rfl HR.out rfl Try.underlying31 rfl hsz) rfl ⟨alieZ, by rw [HV.out, HN2.out, HC.out], by rw [HV.out]; exact HOR.out, HBR.out⟩
end Go.Proofs.Ytgdiiicaljidpaa
