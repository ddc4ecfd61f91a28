/- The document's Chmod. -/
import Derived.Test.YtdioafoikcfhhaaOt
set_option linter.unusedSimpArgs false
set_option linter.unusedVariables false
set_option linter.unusedSimpArgs false
set_option linter.unusedVariables false
namespace Go.Proofs.Ytdioafoikcfhhaa
open Go.RowKit
/-- A variable of attributes; W: the world ahead of it. -/
structure Wl (W V : World) (g : Nat) (x : At) (p : ALie) : Prop where
  bt : Bt V g x p
  ow : AOw V x p
  be : Below W.heap.size W V
  hg : W.heap.size ≤ g
theorem Wl.on {W V V' : World} {g : Nat} {x : At} {p : ALie} (h : Wl W V g x p) (hb : Below V.heap.size V V') : Wl W V' g x p := ⟨h.bt.on hb, h.ow.below hb, h.be.trans (hb.mono h.be.size), h.hg⟩
theorem Wl.put {W V : World} {g : Nat} {x y : At} {p q : ALie} (h : Wl W V g x p) (ho : AOw V y q) : Wl W (V.setRow g (y.c q)) g y q := ⟨setRow_heap _ _ _ _ _ _ h.bt, ho.turn h.bt _, below_setRow h.be h.hg _, h.hg⟩
theorem Wl.fresh {W : World} {x : At} {q : ALie} (h : AOw W x q) : Wl W ((W.alloc (.cells zAt 31)).setRow W.heap.size (At.c x q)) W.heap.size x q := by
  have b1 := put_below W (At.c x q)
  exact ⟨setRow_heap _ _ _ _ _ _ (heap_alloc_new W _), h.below b1, b1, Nat.le_refl _⟩
set_option maxRecDepth 100000 in
set_option maxHeartbeats 8000000 in
theorem rchmodo_calls (c : Cr) (A : Option Addr) (n : Nat) (x : At) (p : ALie) (k m : Nat) (w : World) (hc : CLies w c A) (h : ALies w x p) (hs : ASm x) (hks : Ks x) (hm6 : m < 65536) :
    Calls Try.prog 12 #[c.v A n, x.v p, .int .u8 (k : Nat), .int .u16 (m : Nat)] w fun e w' => ∃ q, e = .returned (.tuple #[At.v (chmA c x k m) q, .int .i64 (chmN c x)]) ∧ AOw w' (chmA c x k m) q ∧ Below w.heap.size w w' := by
  obtain ⟨V, hV⟩ : ∃ V, V = ((w.alloc (.cells (c.c A n) 25)).alloc (.cells (x.c p) 31)).alloc (.cells zAt 31) := ⟨_, rfl⟩
  have S0 : Hid (Pz w V c A n x p (w.heap.size + 2)) := Lib.hid (by rw [hV]; exact Pz.start hc h)
  have HS := Lib.hid hs
  have HKS := Lib.hid hks
  
  obtain ⟨X, hX⟩ : ∃ X, chmA c x k m = X := ⟨_, rfl⟩
  obtain ⟨N, hN⟩ : ∃ N, chmN c x = N := ⟨_, rfl⟩
  rw [hX, hN]
  have HX := Lib.hid hX
  have HN := Lib.hid hN
  clear h hc hs hks hX hN
  go_enter Try.func12, Try.ntmps12
  go_upto_region 1 with (fail)
  rw [← hV]
  clear hV
  go_wp2_with (first
  | (refine wpList_load_part rfl 25 (.tmp 4) rfl w.heap.size 0 rfl (Cr.c c A n).toList _ (S0.out.pb.cb).all Try.underlying25 rfl cred_size (Cr.v c A n) rfl ?_)
  | (refine wpList_load_part rfl 31 (.tmp 5) rfl (w.heap.size + 1) 0 rfl (At.c x p).toList _ (S0.out.pb.bt).bt0 Try.underlying31 rfl attr_size (At.v x p) rfl ?_))
  refine (rmayo_calls c A n x p V S0.out.pb.cl S0.out.pb.al HS.out HKS.out).mono ?_
  rintro e w1 ⟨rfl, hb⟩
  have S1 := Lib.hid (S0.out.on hb)
  clear hb S0
  cases hv : validB c x
  case false =>
    have HA : Hid (X = atZ) := Lib.hid (by rw [← HX.out]; unfold chmA; rw [hv]; rfl)
    have HN2 : Hid (N = 622) := Lib.hid (by rw [← HN.out]; unfold chmN; rw [hv]; rfl)
    clear hv
    have hone : (zAt).all (·.oneCell') = true := by rw [← Array.all_toList]; rfl
    obtain ⟨Z, hZ⟩ : ∃ Z, Z = World.setRow w1 (w.heap.size + 2) zAt := ⟨_, rfl⟩
    have HR : Hid (Z.heap[(w.heap.size + 2)]? = some (.cells zAt 31 (0, 0))) := Lib.hid (by rw [hZ]; exact setRow_heap _ _ _ _ _ _ S1.out.rz)
    have HBZ : Hid (Below w.heap.size w Z) := Lib.hid (by rw [hZ]; exact below_setRow S1.out.pb.be S1.out.hr _)
    have HZZ := Lib.hid hZ
    clear hZ
    go_wp2_with (first
      | (refine wpList_buildTo rfl 31 #[] rfl (some 15) rfl zAt (by kernel_rfl) ?_)
      | (refine wpList_store_rowTo rfl 31 (.tmp 8) (.tmp 15) rfl rfl (w.heap.size + 2) zAt rfl rfl 31 _ S1.out.rz attr_size rfl hone ?_; rw [← HZZ.out]))
    exact bodyPost_ret (results_row_tmp rfl _ _ (w.heap.size + 2) 31 zAt (0, 0) _ (.int .i64 622) rfl HR.out rfl Try.underlying31 rfl attr_size) rfl ⟨alieZ, by rw [HA.out, HN2.out]; rfl, by rw [HA.out]; exact AOw.z _, HBZ.out⟩
  case true =>
  have HM := Lib.hid (valid_parts hv).2
  go_wp2_with (first
  | (refine wpList_load_part rfl 25 (.tmp 4) rfl w.heap.size 0 rfl (Cr.c c A n).toList _ (S1.out.pb.cb).all Try.underlying25 rfl cred_size (Cr.v c A n) rfl ?_)
  | (refine wpList_load_part rfl 31 (.tmp 5) rfl (w.heap.size + 1) 0 rfl (At.c x p).toList _ (S1.out.pb.bt).bt0 Try.underlying31 rfl attr_size (At.v x p) rfl ?_))
  refine (rownso_calls c A n x p w1 S1.out.pb.cl S1.out.pb.al HS.out HKS.out).mono ?_
  rintro e w2 ⟨rfl, hb⟩
  have S2 := Lib.hid (S1.out.on hb)
  clear hb S1
  rw [show ownB c x = ownsB c x by unfold ownB; rw [hv]; rfl]
  cases ho : ownsB c x
  case false =>
    have HA : Hid (X = atZ) := Lib.hid (by rw [← HX.out]; unfold chmA; rw [hv, ho]; rfl)
    have HN2 : Hid (N = 601) := Lib.hid (by rw [← HN.out]; unfold chmN; rw [hv, ho]; rfl)
    clear hv ho
    have hone : (zAt).all (·.oneCell') = true := by rw [← Array.all_toList]; rfl
    obtain ⟨Z, hZ⟩ : ∃ Z, Z = World.setRow w2 (w.heap.size + 2) zAt := ⟨_, rfl⟩
    have HR : Hid (Z.heap[(w.heap.size + 2)]? = some (.cells zAt 31 (0, 0))) := Lib.hid (by rw [hZ]; exact setRow_heap _ _ _ _ _ _ S2.out.rz)
    have HBZ : Hid (Below w.heap.size w Z) := Lib.hid (by rw [hZ]; exact below_setRow S2.out.pb.be S2.out.hr _)
    have HZZ := Lib.hid hZ
    clear hZ
    go_wp2_with (first
      | (refine wpList_buildTo rfl 31 #[] rfl (some 20) rfl zAt (by kernel_rfl) ?_)
      | (refine wpList_store_rowTo rfl 31 (.tmp 8) (.tmp 20) rfl rfl (w.heap.size + 2) zAt rfl rfl 31 _ S2.out.rz attr_size rfl hone ?_; rw [← HZZ.out]))
    exact bodyPost_ret (results_row_tmp rfl _ _ (w.heap.size + 2) 31 zAt (0, 0) _ (.int .i64 601) rfl HR.out rfl Try.underlying31 rfl attr_size) rfl ⟨alieZ, by rw [HA.out, HN2.out]; rfl, by rw [HA.out]; exact AOw.z _, HBZ.out⟩
  case true =>
  have HA : Hid (X = chmX c x k m) := Lib.hid (by rw [← HX.out]; unfold chmA; rw [hv, ho]; rfl)
  have HN2 : Hid (N = 0) := Lib.hid (by rw [← HN.out]; unfold chmN; rw [hv, ho]; rfl)
  clear hv ho HX HN
  go_wp2_with (refine wpList_load_part rfl 31 (.tmp 5) rfl (w.heap.size + 1) 0 rfl (At.c x p).toList _ (S2.out.pb.bt).bt0 Try.underlying31 rfl attr_size (At.v x p) rfl ?_)
  refine (racopy_calls x p w2 S2.out.pb.al HS.out).mono ?_
  rintro e w3 ⟨q, rfl, hC0, hb⟩
  have T1 := Lib.hid (S2.out.on hb)
  have HO := Lib.hid (AOw.of hC0)
  clear hb hC0 S2
  obtain ⟨C, hC⟩ : ∃ C, C = At.c (x) q := ⟨_, rfl⟩
  have hone : C.all (·.oneCell') = true := by rw [hC]; exact c_one _ _
  have hsz : (Try.prog.info? 31).map (·.size) = some C.size := by rw [hC]; exact c_size _ _
  have hold : (zAt : Array Value).size = C.size := by rw [hC]; rfl
  have HZn := Lib.hid (heap_alloc_new w3 (.cells zAt 31))
  obtain ⟨U, hU⟩ : ∃ Zz, Zz = (w3.alloc (.cells zAt 31)).setRow w3.heap.size C := ⟨_, rfl⟩
  obtain ⟨g, hg⟩ : ∃ Zz, Zz = w3.heap.size := ⟨_, rfl⟩
  have S3 : Hid (Wl w3 U g (x) q) := Lib.hid (by rw [hU, hg, hC]; exact Wl.fresh HO.out)
  rw [show At.v (x) q = .agg C by rw [hC]]
  clear hC HO
  go_upto_region 6 with (refine wpList_store_rowTo rfl 31 (.tmp 10) (.tmp 22) rfl rfl w3.heap.size C rfl rfl 31 _ HZn.out hsz hold hone ?_; rw [← hU])
  clear hU HZn hsz hold hone
  rw [← hg]
  clear hg
  obtain ⟨b1, hb1⟩ : ∃ b, m / 512 % 8 = b := ⟨_, rfl⟩
  have e7 : (m : Int) / 512 % 8 = (b1 : Int) := by omega
  have e9 : ((m : Int) / 512).tmod 8 = (b1 : Int) := by rw [Int.tmod_eq_emod_of_nonneg (by omega)]; exact e7
  have e8 : ((m : Int).tdiv 512).tmod 8 = (b1 : Int) := by rw [Int.tdiv_eq_ediv_of_nonneg (by omega)]; exact e9
  have hl8 : b1 < 8 := by omega
  have HB1 := Lib.hid hb1
  clear hb1
  obtain ⟨U1, hU1⟩ : ∃ Zz, Zz = World.setRow U g (At.c (withBi x b1) q) := ⟨_, rfl⟩
  have S4 := Lib.hid (S3.out.put (S3.out.ow.bi b1))
  rw [← hU1] at S4
  go_upto_region 7 with (refine wpList_store_part rfl 5 (.tmp 27) (.tmp 26) rfl rfl g 0 [.int .u8 ((b1 : Nat) : Int)] rfl rfl 31 _ S3.out.bt u8_size (Nat.le_of_ble_eq_true rfl) (one_of rfl) (At.c (withBi x b1) q) rfl ?_; rw [← hU1])
  clear hU1 S3 e7 e8 e9
  go_wp2_with (refine wpList_load_part rfl 28 (.tmp 28) rfl g 3 rfl (Ac.c (withBi x b1).ac q.p).toList _ (S4.out.bt.ac) Try.underlying28 rfl acl_size (Ac.v (withBi x b1).ac q.p) rfl ?_)
  refine (rchmod_calls (withBi x b1).ac q.p m U1 S4.out.ow.ac.lies (asm_of HM.out).ac hm6).mono ?_
  rintro e w5 ⟨q5, rfl, hC, hb⟩
  have S5 := Lib.hid (S4.out.on hb)
  have HL := Lib.hid (LiesO.of hC)
  clear hb hC S4
  obtain ⟨l, hl⟩ : ∃ l, chA (withBi x b1).ac m = l := ⟨_, rfl⟩
  rw [hl] at HL ⊢
  have HLL := Lib.hid hl
  clear hl
  obtain ⟨U5, hU5⟩ : ∃ Zz, Zz = World.setRow w5 g (At.c (withAc (withBi x b1) l) ⟨q5, q.q, q.X, q.n⟩) := ⟨_, rfl⟩
  have S6 := Lib.hid (S5.out.put (S5.out.ow.acc HL.out))
  rw [← hU5] at S6
  go_upto_region 8 with (refine wpList_store_part rfl 28 (.tmp 32) (.tmp 31) rfl rfl g 3 (Ac.c l q5).toList rfl rfl 31 _ S5.out.bt acl_size (Nat.le_of_ble_eq_true rfl) (acl_one _ _) (At.c (withAc (withBi x b1) l) ⟨q5, q.q, q.X, q.n⟩) rfl ?_; rw [← hU5])
  clear hU5 S5 HL
  have HY : Hid (chmX c x k m = lostA c (withAc (withBi x b1) l) k) := Lib.hid (by rw [← HLL.out, ← HB1.out]; rfl)
  have HYB : Hid ((withAc (withBi x b1) l).bi < 256) := Lib.hid (by show b1 < 256; omega)
  have HYS : Hid (ASm (withAc (withBi x b1) l)) := Lib.hid ⟨by rw [← HLL.out]; exact ⟨(asm_of HM.out).ac.us, (asm_of HM.out).ac.gs⟩, (asm_of HM.out).df, (asm_of HM.out).xs⟩
  generalize withAc (withBi x b1) l = y at *
  obtain ⟨p2, hp2⟩ : ∃ p2 : ALie, ⟨q5, q.q, q.X, q.n⟩ = p2 := ⟨_, rfl⟩
  rw [hp2] at S6
  clear hp2
  have P6 := Lib.hid (T1.out.on S6.out.be)
  go_wp2_with (first
  | (refine wpList_load_part rfl 25 (.tmp 4) rfl w.heap.size 0 rfl (Cr.c c A n).toList _ (P6.out.pb.cb).all Try.underlying25 rfl cred_size (Cr.v c A n) rfl ?_)
  | (refine wpList_load_part rfl 31 (.tmp 10) rfl g 0 rfl (At.c y p2).toList _ (S6.out.bt).bt0 Try.underlying31 rfl attr_size (At.v y p2) rfl ?_))
  refine (rlost_calls c A n y p2 k U5 P6.out.pb.cl S6.out.ow.lies HYS.out HYB.out).mono ?_
  rintro e w7 ⟨q7, rfl, how, hb⟩
  have P7 := Lib.hid (P6.out.on hb)
  have HO := Lib.hid how
  clear hb how S6 P6 T1
  obtain ⟨C, hC⟩ : ∃ C, C = At.c (lostA c y k) q7 := ⟨_, rfl⟩
  have hone : C.all (·.oneCell') = true := by rw [hC]; exact c_one _ _
  have hsz : (Try.prog.info? 31).map (·.size) = some C.size := by rw [hC]; exact c_size _ _
  have hold : (zAt : Array Value).size = C.size := by rw [hC]; rfl
  obtain ⟨Z, hZ⟩ : ∃ Z, Z = World.setRow w7 (w.heap.size + 2) C := ⟨_, rfl⟩
  have HR : Hid (Z.heap[(w.heap.size + 2)]? = some (.cells C 31 (0, 0))) := Lib.hid (by rw [hZ]; exact setRow_heap _ _ _ _ _ _ P7.out.rz)
  have HOR := Lib.hid ((HO.out).turn P7.out.rz C)
  have HBR : Hid (Below w.heap.size w Z) := Lib.hid (by rw [hZ]; exact below_setRow P7.out.pb.be P7.out.hr _)
  rw [← hZ] at HOR
  have HC := Lib.hid hC
  have HZZ := Lib.hid hZ
  rw [show At.v (lostA c y k) q7 = .agg C by rw [hC]]
  clear hC hZ
  go_wp2_with (refine wpList_store_rowTo rfl 31 (.tmp 8) (.tmp 36) rfl rfl (w.heap.size + 2) C rfl rfl 31 _ P7.out.rz hsz hold hone ?_; rw [← HZZ.out])
  exact bodyPost_ret (results_row_tmp rfl _ _ (w.heap.size + 2) 31 C (0, 0) _ (.int .i64 0) rfl HR.out rfl Try.underlying31 rfl hsz) rfl ⟨q7, by rw [HC.out, HA.out, HN2.out, HY.out], by rw [HA.out, HY.out]; exact HOR.out, HBR.out⟩
end Go.Proofs.Ytdioafoikcfhhaa
