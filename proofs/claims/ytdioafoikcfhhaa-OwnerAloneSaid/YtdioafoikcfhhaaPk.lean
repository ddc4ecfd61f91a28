/- OwnerAlone: whatever it is called with, it hands back true. -/
import Derived.Test.YtdioafoikcfhhaaPj
set_option linter.unusedSimpArgs false
set_option linter.unusedVariables false
set_option linter.unusedSimpArgs false
set_option linter.unusedVariables false
namespace Go.Proofs.Ytdioafoikcfhhaa
open Go.RowKit
set_option maxRecDepth 100000 in
set_option maxHeartbeats 64000000 in
theorem alone_law (c : Cr) (A : Option Addr) (n : Nat) (x : At) (p : ALie) (k m : Nat) (u g : Int) (wh : Nat) (l : Ac) (pl : Lie) (w : World) (hc : CLies w c A) (h : ALies w x p) (hll : Lies w l pl) (hsx : ABg x) (hsl : Bg l) (hm6 : m < 65536) (hxu : x.ui < 65536) (hxg : x.gi < 65536) :
    Calls Try.prog 5 #[c.v A n, x.v p, .int .u8 (k : Nat), .int .u16 (m : Nat), .int .i64 u, .int .i64 g, .int .u8 (wh : Nat), l.v pl] w fun e w' => e = .returned (.bool true) ∧ Below w.heap.size w w' := by
  obtain ⟨V, hV⟩ : ∃ V, V = ((w.alloc (.cells (c.c A n) 25)).alloc (.cells (x.c p) 31)).alloc (.cells (l.c pl) 28) := ⟨_, rfl⟩
  have S0 : Hid (Pk w V c A n x p l pl) := Lib.hid (by rw [hV]; exact Pk.start hc h hll)
  have hv3 : V.heap.size = w.heap.size + 3 := by rw [hV, World.size_alloc, World.size_alloc, World.size_alloc]
  have HV3 := Lib.hid hv3
  have HGX := Lib.hid hsx
  have HGL := Lib.hid hsl
  have HXU := Lib.hid hxu
  have HXG := Lib.hid hxg
  clear h hc hsx hll hsl hv3 hxu hxg
  go_enter Try.func5, Try.ntmps5
  go_upto_region 1 with (fail)
  rw [← hV]
  clear hV
  go_wp2_with (first
  | (refine wpList_load_part rfl 25 (.tmp 8) rfl w.heap.size 0 rfl (Cr.c c A n).toList _ (S0.out.cb).all Try.underlying25 rfl cred_size (Cr.v c A n) rfl ?_)
  | (refine wpList_load_part rfl 31 (.tmp 9) rfl (w.heap.size + 1) 0 rfl (At.c x p).toList _ (S0.out.bt).bt0 Try.underlying31 rfl attr_size (At.v x p) rfl ?_)
  | (refine wpList_load_part rfl 28 (.tmp 15) rfl (w.heap.size + 2) 0 rfl (Ac.c l pl).toList _ (S0.out.bl.part) Try.underlying28 rfl acl_size (Ac.v l pl) rfl ?_))
  refine (glarge_calls c A n x p V S0.out.cl S0.out.al HGX.out).mono ?_
  rintro e w1 ⟨rfl, hb⟩
  have S1 := Lib.hid (S0.out.on hb)
  have HSZ : Hid (w.heap.size + 3 ≤ w1.heap.size) := Lib.hid (by have := hb.size; have := HV3.out; omega)
  clear hb S0 HV3
  cases hlx : largeG c x
  case true =>
    clear hlx
    go_wp2_with (fail)
    refine (alive_calls _).mono ?_
    rintro e w99 ⟨rfl, hb⟩
    have HBZ := Lib.hid ((S1.out.be).trans (hb.mono (S1.out.be).size))
    clear hb
    go_wp2_with (fail)
    go_ret
    exact ⟨rfl, HBZ.out⟩
  case false =>
  have HS := Lib.hid (largeG_no hlx).1
  clear hlx
  go_wp2_with (first
  | (refine wpList_load_part rfl 25 (.tmp 8) rfl w.heap.size 0 rfl (Cr.c c A n).toList _ (S1.out.cb).all Try.underlying25 rfl cred_size (Cr.v c A n) rfl ?_)
  | (refine wpList_load_part rfl 31 (.tmp 9) rfl (w.heap.size + 1) 0 rfl (At.c x p).toList _ (S1.out.bt).bt0 Try.underlying31 rfl attr_size (At.v x p) rfl ?_)
  | (refine wpList_load_part rfl 28 (.tmp 15) rfl (w.heap.size + 2) 0 rfl (Ac.c l pl).toList _ (S1.out.bl.part) Try.underlying28 rfl acl_size (Ac.v l pl) rfl ?_))
  refine (large_calls l pl w1 HGL.out).mono ?_
  rintro e w2 ⟨rfl, hb⟩
  have S2 := Lib.hid (S1.out.on hb)
  have HSZ : Hid (w.heap.size + 3 ≤ w2.heap.size) := Lib.hid (Nat.le_trans HSZ.out hb.size)
  clear hb S1
  cases hll : (decide (100 < l.us.length) || decide (100 < l.gs.length))
  case true =>
    clear hll
    go_wp2_with (fail)
    refine (alive_calls _).mono ?_
    rintro e w99 ⟨rfl, hb⟩
    have HBZ := Lib.hid ((S2.out.be).trans (hb.mono (S2.out.be).size))
    clear hb
    go_wp2_with (fail)
    go_ret
    exact ⟨rfl, HBZ.out⟩
  case false =>
  have HLS := Lib.hid (sm_of_small hll)
  clear hll
  go_wp2_with (first
  | (refine wpList_load_part rfl 25 (.tmp 8) rfl w.heap.size 0 rfl (Cr.c c A n).toList _ (S2.out.cb).all Try.underlying25 rfl cred_size (Cr.v c A n) rfl ?_)
  | (refine wpList_load_part rfl 31 (.tmp 9) rfl (w.heap.size + 1) 0 rfl (At.c x p).toList _ (S2.out.bt).bt0 Try.underlying31 rfl attr_size (At.v x p) rfl ?_)
  | (refine wpList_load_part rfl 28 (.tmp 15) rfl (w.heap.size + 2) 0 rfl (Ac.c l pl).toList _ (S2.out.bl.part) Try.underlying28 rfl acl_size (Ac.v l pl) rfl ?_))
  refine (racopy_calls x p w2 S2.out.al HS.out).mono ?_
  rintro e w3 ⟨o, rfl, hC, hb⟩
  have S3 := Lib.hid (S2.out.on hb)
  have HO := Lib.hid (AOw.of hC)
  have HSZ : Hid (w.heap.size + 3 ≤ w3.heap.size) := Lib.hid (Nat.le_trans HSZ.out hb.size)
  clear hb hC S2
  go_wp2_with (fail)
  refine (acheck_calls x o w3 HO.out.lies HS.out).mono ?_
  rintro e w4 ⟨rfl, hb⟩
  have S := Lib.hid (S3.out.on hb)
  have HSZ : Hid (w.heap.size + 3 ≤ w4.heap.size) := Lib.hid (Nat.le_trans HSZ.out hb.size)
  clear hb S3 HO
  cases hmx : amayB x
  case false =>
    clear hmx
    rw [ckN_false]
    go_wp2_with (fail)
    refine (alive_calls _).mono ?_
    rintro e w99 ⟨rfl, hb⟩
    have HBZ := Lib.hid ((S.out.be).trans (hb.mono (S.out.be).size))
    clear hb
    go_wp2_with (fail)
    go_ret
    exact ⟨rfl, HBZ.out⟩
  case true =>
  have HM := Lib.hid hmx
  clear hmx
  rw [ckN_true]
  obtain ⟨X, hX⟩ : ∃ X, chmA c x k m = X := ⟨_, rfl⟩
  obtain ⟨N1, hN1⟩ : ∃ N, chmN c x = N := ⟨_, rfl⟩
  obtain ⟨Y, hY⟩ : ∃ Y, choA c x k u g = Y := ⟨_, rfl⟩
  obtain ⟨N2, hN2⟩ : ∃ M, choN c x u g = M := ⟨_, rfl⟩
  obtain ⟨Z, hZ⟩ : ∃ Z, aclA c x k wh l = Z := ⟨_, rfl⟩
  obtain ⟨N3, hN3⟩ : ∃ M, aclN c x k wh l = M := ⟨_, rfl⟩
  have HMX : Hid (amayB X = true) := Lib.hid (by rw [← hX]; exact may_chmA c x k m)
  have HMY : Hid (amayB Y = true) := Lib.hid (by rw [← hY]; exact may_choA c x k u g)
  have HMZ : Hid (amayB Z = true) := Lib.hid (by rw [← hZ]; exact may_aclA c x k wh l)
  have HC1 : Hid (∀ v, CLies v c A → ALies v x p → Calls Try.prog 11 #[c.v A n, x.v p, .int .u8 (k : Nat), .int .u16 (m : Nat)] v fun e w' => ∃ q, e = .returned (.tuple #[At.v X q, .int .i64 N1]) ∧ AOw w' X q ∧ Below v.heap.size v w') := Lib.hid (fun v h1 h2 => by
    have h := chmodo_calls c A n x p k m v h1 h2 HS.out hm6
    rwa [hX, hN1] at h)
  have HC2 : Hid (∀ v, CLies v c A → ALies v x p → Calls Try.prog 13 #[c.v A n, x.v p, .int .u8 (k : Nat), .int .i64 u, .int .i64 g] v fun e w' => ∃ q, e = .returned (.tuple #[At.v Y q, .int .i64 N2]) ∧ AOw w' Y q ∧ Below v.heap.size v w') := Lib.hid (fun v h1 h2 => by
    have h := chowno_calls c A n x p k u g v h1 h2 HS.out
    rwa [hY, hN2] at h)
  have HC3 : Hid (∀ v, CLies v c A → ALies v x p → Lies v l pl → Calls Try.prog 23 #[c.v A n, x.v p, .int .u8 (k : Nat), .int .u8 (wh : Nat), l.v pl] v fun e w' => ∃ q, e = .returned (.tuple #[At.v Z q, .int .i64 N3]) ∧ AOw w' Z q ∧ Below v.heap.size v w') := Lib.hid (fun v h1 h2 h3 => by
    have h := setaclo_calls c A n x p k wh l pl v h1 h2 HS.out h3 HLS.out
    rwa [hZ, hN3] at h)
  have HNO : Hid (ownB c x = false → N1 ≠ 0 ∧ N2 ≠ 0 ∧ N3 ≠ 0) := Lib.hid (fun h => by rw [← hN1, ← hN2, ← hN3]; exact alone_no h)
  have HYE : Hid (ownB c x = true → N1 = 0 ∧ X.bi &&& 5 = (m / 512 % 8) &&& 5 ∧ offN X.bi (m / 512 % 8) = 0 ∧ bitsN X.ac = m % 512 ∧ withAc (withBi X x.bi) (chA X.ac (bitsN x.ac)) = x) := Lib.hid (fun h => by
    rw [← hN1, ← hX, (alone_yes (k := k) (m := m) h).2]
    exact ⟨(alone_yes (k := k) (m := m) h).1, chm_facts HM.out⟩)
  have HCF : Hid (N2 = 0 → (idB u && idB g) = true ∧ offN Y.bi x.bi = 0 ∧ Y.bi &&& 1 = x.bi &&& 1 ∧ Y.ui = becN u x.ui ∧ Y.gi = becN g x.gi ∧ withBi (withId Y x.ui x.gi) x.bi = x) := Lib.hid (fun h => by
    have h0 := hN2.trans h
    rw [← hY]
    unfold choA
    rw [if_pos h0]
    exact ⟨(valid_cho h0).2.1, cho_facts HM.out⟩)
  have HAF : Hid (N3 = 0 → (1 ≤ wh ∧ wh ≤ 3) ∧ (wh = 1 ∨ k = 2) ∧ Z = aclX c x k wh l) := Lib.hid (fun h => by
    have h0 := hN3.trans h
    rw [← hZ]
    unfold aclA
    rw [if_pos h0]
    obtain ⟨_, h1, _, h2, _⟩ := valid_acl h0
    exact ⟨h1, h2, rfl⟩)
  clear hX hN1 hY hN2 hZ hN3
  go_upto_region 3 with (fail)
  go_wp2_with (first
    | (refine wpList_load_part rfl 25 (.tmp 8) rfl w.heap.size 0 rfl (Cr.c c A n).toList _ (S.out.cb).all Try.underlying25 rfl cred_size (Cr.v c A n) rfl ?_)
    | (refine wpList_load_part rfl 31 (.tmp 9) rfl (w.heap.size + 1) 0 rfl (At.c x p).toList _ (S.out.bt).bt0 Try.underlying31 rfl attr_size (At.v x p) rfl ?_))
  refine (HC1.out w4 S.out.cl S.out.al).mono ?_
  rintro e w5 ⟨rw1, rfl, how, hb⟩
  have S := Lib.hid (S.out.on hb)
  have hsz5 := hb.size
  clear hb
  have HL1 : Hid (w.heap.size + 3 ≤ w5.heap.size) := Lib.hid (Nat.le_trans HSZ.out hsz5)
  clear hsz5
  obtain ⟨C, hC⟩ : ∃ C, C = At.c (X) rw1 := ⟨_, rfl⟩
  have hone : C.all (·.oneCell') = true := by rw [hC]; exact c_one _ _
  have hsz : (Try.prog.info? 31).map (·.size) = some C.size := by rw [hC]; exact c_size _ _
  have hold : (zAt : Array Value).size = C.size := by rw [hC]; rfl
  have HZn := Lib.hid (heap_alloc_new w5 (.cells zAt 31))
  obtain ⟨U1, hU⟩ : ∃ Zz, Zz = (w5.alloc (.cells zAt 31)).setRow w5.heap.size C := ⟨_, rfl⟩
  obtain ⟨g1, hg⟩ : ∃ Zz, Zz = w5.heap.size := ⟨_, rfl⟩
  have bu : Below w5.heap.size w5 U1 := by rw [hU]; exact put_below w5 C
  have Hg1 : Hid (Ho U1 g1 (X) rw1) := Lib.hid (by rw [hU, hg, hC]; exact Ho.fresh how)
  have HLg1 : Hid (w.heap.size + 3 ≤ g1) := Lib.hid (by have := HL1.out; omega)
  have S := Lib.hid (S.out.on bu)
  have HUU := Lib.hid hU
  rw [show At.v (X) rw1 = .agg C by rw [hC]]
  clear hC bu hU how HC1
  go_upto_region 4 with (refine wpList_store_rowTo rfl 31 (.tmp 17) (.tmp 43) rfl rfl w5.heap.size C rfl rfl 31 _ HZn.out hsz hold hone ?_; rw [← HUU.out])
  clear HUU HZn hsz hold hone
  rw [← hg]
  clear hg
  go_wp2_with (first
    | (refine wpList_load_part rfl 25 (.tmp 8) rfl w.heap.size 0 rfl (Cr.c c A n).toList _ (S.out.cb).all Try.underlying25 rfl cred_size (Cr.v c A n) rfl ?_)
    | (refine wpList_load_part rfl 31 (.tmp 9) rfl (w.heap.size + 1) 0 rfl (At.c x p).toList _ (S.out.bt).bt0 Try.underlying31 rfl attr_size (At.v x p) rfl ?_))
  refine (HC2.out U1 S.out.cl S.out.al).mono ?_
  rintro e w6 ⟨rw2, rfl, how, hb⟩
  have S := Lib.hid (S.out.on hb)
  have Hg1 := Lib.hid (Hg1.out.on hb)
  have hsz5 := hb.size
  clear hb
  clear hsz5
  obtain ⟨C, hC⟩ : ∃ C, C = At.c (Y) rw2 := ⟨_, rfl⟩
  have hone : C.all (·.oneCell') = true := by rw [hC]; exact c_one _ _
  have hsz : (Try.prog.info? 31).map (·.size) = some C.size := by rw [hC]; exact c_size _ _
  have hold : (zAt : Array Value).size = C.size := by rw [hC]; rfl
  have HZn := Lib.hid (heap_alloc_new w6 (.cells zAt 31))
  obtain ⟨U2, hU⟩ : ∃ Zz, Zz = (w6.alloc (.cells zAt 31)).setRow w6.heap.size C := ⟨_, rfl⟩
  obtain ⟨g2, hg⟩ : ∃ Zz, Zz = w6.heap.size := ⟨_, rfl⟩
  have bu : Below w6.heap.size w6 U2 := by rw [hU]; exact put_below w6 C
  have Hg2 : Hid (Ho U2 g2 (Y) rw2) := Lib.hid (by rw [hU, hg, hC]; exact Ho.fresh how)
  have HLg2 : Hid (w.heap.size + 3 ≤ g2 ∧ g1 < g2) := Lib.hid (by have := HLg1.out; have := Hg1.out.bt.lt; omega)
  have S := Lib.hid (S.out.on bu)
  have Hg1 := Lib.hid (Hg1.out.on bu)
  have HUU := Lib.hid hU
  rw [show At.v (Y) rw2 = .agg C by rw [hC]]
  clear hC bu hU how HC2
  go_upto_region 5 with (refine wpList_store_rowTo rfl 31 (.tmp 19) (.tmp 52) rfl rfl w6.heap.size C rfl rfl 31 _ HZn.out hsz hold hone ?_; rw [← HUU.out])
  clear HUU HZn hsz hold hone
  rw [← hg]
  clear hg
  go_wp2_with (first
    | (refine wpList_load_part rfl 25 (.tmp 8) rfl w.heap.size 0 rfl (Cr.c c A n).toList _ (S.out.cb).all Try.underlying25 rfl cred_size (Cr.v c A n) rfl ?_)
    | (refine wpList_load_part rfl 31 (.tmp 9) rfl (w.heap.size + 1) 0 rfl (At.c x p).toList _ (S.out.bt).bt0 Try.underlying31 rfl attr_size (At.v x p) rfl ?_)
    | (refine wpList_load_part rfl 28 (.tmp 15) rfl (w.heap.size + 2) 0 rfl (Ac.c l pl).toList _ (S.out.bl.part) Try.underlying28 rfl acl_size (Ac.v l pl) rfl ?_))
  refine (HC3.out U2 S.out.cl S.out.al S.out.ll).mono ?_
  rintro e w7 ⟨rw3, rfl, how, hb⟩
  have S := Lib.hid (S.out.on hb)
  have Hg1 := Lib.hid (Hg1.out.on hb)
  have Hg2 := Lib.hid (Hg2.out.on hb)
  have hsz5 := hb.size
  clear hb
  clear hsz5
  obtain ⟨C, hC⟩ : ∃ C, C = At.c (Z) rw3 := ⟨_, rfl⟩
  have hone : C.all (·.oneCell') = true := by rw [hC]; exact c_one _ _
  have hsz : (Try.prog.info? 31).map (·.size) = some C.size := by rw [hC]; exact c_size _ _
  have hold : (zAt : Array Value).size = C.size := by rw [hC]; rfl
  have HZn := Lib.hid (heap_alloc_new w7 (.cells zAt 31))
  obtain ⟨U3, hU⟩ : ∃ Zz, Zz = (w7.alloc (.cells zAt 31)).setRow w7.heap.size C := ⟨_, rfl⟩
  obtain ⟨g3, hg⟩ : ∃ Zz, Zz = w7.heap.size := ⟨_, rfl⟩
  have bu : Below w7.heap.size w7 U3 := by rw [hU]; exact put_below w7 C
  have Hg3 : Hid (Ho U3 g3 (Z) rw3) := Lib.hid (by rw [hU, hg, hC]; exact Ho.fresh how)
  have HLg3 : Hid (w.heap.size + 3 ≤ g3 ∧ g1 < g3 ∧ g2 < g3) := Lib.hid (by have := HLg1.out; have := Hg1.out.bt.lt; have := HLg2.out; have := Hg2.out.bt.lt; omega)
  have S := Lib.hid (S.out.on bu)
  have Hg1 := Lib.hid (Hg1.out.on bu)
  have Hg2 := Lib.hid (Hg2.out.on bu)
  have HUU := Lib.hid hU
  rw [show At.v (Z) rw3 = .agg C by rw [hC]]
  clear hC bu hU how HC3
  go_upto_region 6 with (refine wpList_store_rowTo rfl 31 (.tmp 21) (.tmp 61) rfl rfl w7.heap.size C rfl rfl 31 _ HZn.out hsz hold hone ?_; rw [← HUU.out])
  clear HUU HZn hsz hold hone
  rw [← hg]
  clear hg
  clear HL1 HSZ
  go_wp2_with (first
  | (refine wpList_load_part rfl 25 (.tmp 8) rfl w.heap.size 0 rfl (Cr.c c A n).toList _ (S.out.cb).all Try.underlying25 rfl cred_size (Cr.v c A n) rfl ?_)
  | (refine wpList_load_part rfl 31 (.tmp 9) rfl (w.heap.size + 1) 0 rfl (At.c x p).toList _ (S.out.bt).bt0 Try.underlying31 rfl attr_size (At.v x p) rfl ?_)
  | (refine wpList_load_part rfl 28 (.tmp 15) rfl (w.heap.size + 2) 0 rfl (Ac.c l pl).toList _ (S.out.bl.part) Try.underlying28 rfl acl_size (Ac.v l pl) rfl ?_))
  refine (ownso_calls c A n x p U3 S.out.cl S.out.al HS.out).mono ?_
  rintro e w8 ⟨rfl, hb⟩
  have S := Lib.hid (S.out.on hb)
  have Hg1 := Lib.hid (Hg1.out.on hb)
  have Hg2 := Lib.hid (Hg2.out.on hb)
  have Hg3 := Lib.hid (Hg3.out.on hb)
  clear hb
  cases hown : ownB c x
  case false =>
    obtain ⟨h1, h2, h3⟩ := HNO.out hown
    have d1 : (N1 != 0) = true := by rw [bne_iff_ne]; exact h1
    have d2 : (N2 != 0) = true := by rw [bne_iff_ne]; exact h2
    have d3 : (N3 != 0) = true := by rw [bne_iff_ne]; exact h3
    clear hown h1 h2 h3
    go_wp2_with (fail)
    refine (alive_calls _).mono ?_
    rintro e w99 ⟨rfl, hb⟩
    have HBZ := Lib.hid ((S.out.be).trans (hb.mono (S.out.be).size))
    clear hb
    go_wp2_with (fail)
    go_ret
    exact ⟨rfl, HBZ.out⟩
  case true =>
  obtain ⟨h1, hx5, hxo, hxb, hxe⟩ := HYE.out hown
  have d1 : (N1 == 0) = true := by rw [h1]; rfl
  obtain ⟨b1, hb1⟩ : ∃ b, m / 512 % 8 = b := ⟨_, rfl⟩
  obtain ⟨b9, hb9⟩ : ∃ b, m % 512 = b := ⟨_, rfl⟩
  rw [hb1] at hx5 hxo
  rw [hb9] at hxb
  have hl8 : b1 < 8 := by omega
  have hX8 := may8 HMX.out
  have hx8 := may8 HM.out
  obtain ⟨a5, ha5⟩ : ∃ a, b1 &&& 5 = a := ⟨_, rfl⟩
  rw [ha5] at hx5
  have e1 : bits .and .u8 (X.bi : Int) 5 = (a5 : Int) := by rw [← hx5]; exact and8 X.bi 5 (by omega) (by decide)
  have e2 : bits .and .u8 (b1 : Int) 5 = (a5 : Int) := by rw [← ha5]; exact and8 b1 5 (by omega) (by decide)
  have e3 : bits .andNot .u8 (X.bi : Int) (b1 : Int) = 0 := by rw [offNN X.bi b1 hX8 hl8, hxo]; rfl
  have e7 : (m : Int) / 512 % 8 = (b1 : Int) := by omega
  have e9 : ((m : Int) / 512).tmod 8 = (b1 : Int) := by rw [Int.tmod_eq_emod_of_nonneg (by omega)]; exact e7
  have e8 : ((m : Int).tdiv 512).tmod 8 = (b1 : Int) := by rw [Int.tdiv_eq_ediv_of_nonneg (by omega)]; exact e9
  have e10 : (m : Int) % 512 = (b9 : Int) := by omega
  have e11 : (m : Int).tmod 512 = (b9 : Int) := by rw [Int.tmod_eq_emod_of_nonneg (by omega)]; exact e10
  have HXB := Lib.hid hxb
  have HXE := Lib.hid hxe
  clear hown h1 hx5 hxo hxb hxe hb1 hb9 ha5 HNO HYE
  go_wp2_with (refine wpList_load_part rfl 31 (.tmp 17) rfl g1 0 rfl (At.c X rw1).toList _ (Hg1.out.bt).bt0 Try.underlying31 rfl attr_size (At.v X rw1) rfl ?_)
  refine (acheck_calls X rw1 w8 Hg1.out.li (asm_of HMX.out)).mono ?_
  rintro e w9 ⟨rfl, hb⟩
  have S := Lib.hid (S.out.on hb)
  have Hg1 := Lib.hid (Hg1.out.on hb)
  have Hg2 := Lib.hid (Hg2.out.on hb)
  have Hg3 := Lib.hid (Hg3.out.on hb)
  clear hb
  rw [HMX.out, ckN_true]
  have y0 := Hg1.out.bt.c0
  go_wp2_with (refine wpList_load_part rfl 28 (.tmp 107) rfl g1 3 rfl (Ac.c X.ac rw1.p).toList _ (Hg1.out.bt.ac) Try.underlying28 rfl acl_size (Ac.v X.ac rw1.p) rfl ?_)
  refine (rbits_calls X.ac rw1.p w9 (nb_may (amay_parts HMX.out).2.1)).mono ?_
  rintro e w10 ⟨rfl, hb⟩
  have S := Lib.hid (S.out.on hb)
  have Hg1 := Lib.hid (Hg1.out.on hb)
  have Hg2 := Lib.hid (Hg2.out.on hb)
  have Hg3 := Lib.hid (Hg3.out.on hb)
  clear hb y0
  rw [HXB.out]
  go_upto_region 11 with (fail)
  clear d1 e1 e2 e3 e7 e8 e9 e10 e11 HXB
  have ya := S.out.bt.c0
  obtain ⟨U5, hU5⟩ : ∃ Zz, Zz = World.setRow w10 g1 (At.c (withBi X x.bi) rw1) := ⟨_, rfl⟩
  have s5 := S.out.turn HLg1.out (At.c (withBi X x.bi) rw1)
  have k1 := Hg1.out.put (Hg1.out.ow.bi x.bi)
  have k2 := Hg2.out.other Hg1.out.bt (Nat.ne_of_gt HLg2.out.2) (At.c (withBi X x.bi) rw1)
  have k3 := Hg3.out.other Hg1.out.bt (Nat.ne_of_gt HLg3.out.2.1) (At.c (withBi X x.bi) rw1)
  have HB0 := Lib.hid Hg1.out.bt
  rw [← hU5] at s5 k1 k2 k3
  have S := Lib.hid s5
  have Hg1 := Lib.hid k1
  have Hg2 := Lib.hid k2
  have Hg3 := Lib.hid k3
  clear s5 k1 k2 k3
  go_upto_region 12 with (refine wpList_store_part rfl 5 (.tmp 116) (.tmp 115) rfl rfl g1 0 [.int .u8 ((x.bi : Nat) : Int)] rfl rfl 31 _ HB0.out u8_size (Nat.le_of_ble_eq_true rfl) (one_of rfl) (At.c (withBi X x.bi) rw1) rfl ?_; rw [← hU5])
  clear hU5 ya HB0
  refine wp_region_tail (R := R4 [.val (.pointer (some ⟨g1, 3, none⟩)), .val (Ac.v (withBi X x.bi).ac rw1.p), .val (.pointer (some ⟨w.heap.size + 1, 3, none⟩)), .val (Ac.v x.ac p.p), .val (.int .u16 (bitsN x.ac : Nat)), lieS (chA (withBi X x.bi).ac (bitsN x.ac)), .val (.pointer (some ⟨g1, 3, none⟩))]) 7 (by kernel_rfl) (by kernel_rfl) (by kernel_rfl) (by kernel_rfl) (by kernel_rfl) (by decide) (by kernel_rfl) (fun i v w w' h k => Sp4.stable h k) (fun i o hi hn => ?heads1) (fun vs v9 hb hR => ?tail1)
  case heads1 =>
    refine StepsX.at0 (s := 7) ?_ i o hi hn
    refine ⟨fun _ => ?s0, fun _ => ?s1, fun _ => ?s2, fun _ => ?s3, fun _ => ?s4, fun _ => ?s5, fun _ => ?s6, fun h => absurd h (by decide), trivial⟩
    case s0 =>
      exact st4_val _ rfl (.inl rfl) fun a u hb hA hd => by
        have q0 := ev_of (show a.eval (.tmp 17) = .pointer (some ⟨g1, 0, none⟩) from hA.eval 17 rfl)
        unfold execOp
        simp [go_sem, q0]
    case s1 =>
      exact st4_val _ rfl (.inl rfl) fun a u hb hA hd => run_loadP rfl g1 3 _ _ (hd 0 117 rfl rfl _ rfl) (Hg1.out.bt.on hb).ac
    case s2 =>
      exact st4_val _ rfl (.inl rfl) fun a u hb hA hd => by
        have q0 := ev_of (show a.eval (.tmp 9) = .pointer (some ⟨w.heap.size + 1, 0, none⟩) from hA.eval 9 rfl)
        unfold execOp
        simp [go_sem, q0]
    case s3 =>
      exact st4_val _ rfl (.inl rfl) fun a u hb hA hd => run_loadP rfl (w.heap.size + 1) 3 _ _ (hd 2 119 rfl rfl _ rfl) (S.out.bt.on hb).ac
    case s4 =>
      refine st4_call _ rfl (.inl rfl) 29 fun a u hb hA hd => ?_
      have q0 := ev_of (show a.eval (.tmp 120) = Ac.v x.ac p.p from hd 3 120 rfl rfl _ rfl)
      refine ⟨#[Ac.v x.ac p.p], ?_, (rbits_calls x.ac p.p u (nb_may (amay_parts HM.out).2.1)).mono ?_⟩
      · unfold execOp
        simp [go_sem, q0]
      · rintro e w' ⟨rfl, hb'⟩
        exact ⟨_, rfl, rfl, hb'⟩
    case s5 =>
      refine st4_call _ rfl (.inl rfl) 30 fun a u hb hA hd => ?_
      have q0 := ev_of (show a.eval (.tmp 118) = Ac.v (withBi X x.bi).ac rw1.p from hd 1 118 rfl rfl _ rfl)
      have q1 := ev_of (show a.eval (.tmp 121) = .int .u16 (bitsN x.ac : Nat) from hd 4 121 rfl rfl _ rfl)
      refine ⟨#[Ac.v (withBi X x.bi).ac rw1.p, .int .u16 (bitsN x.ac : Nat)], ?_, (rchmod_calls (withBi X x.bi).ac rw1.p (bitsN x.ac) u (Hg1.out.ow.ac.lies.below hb) (asm_of HMX.out).ac (by have := bits_lt512 x.ac; omega)).mono ?_⟩
      · unfold execOp
        simp [go_sem, q0, q1]
      · rintro e w' ⟨q, rfl, hC, hb'⟩
        exact ⟨_, rfl, ⟨q, rfl, LiesO.of hC⟩, hb'⟩
    case s6 =>
      exact st4_val _ rfl (.inl rfl) fun a u hb hA hd => by
        have q0 := ev_of (show a.eval (.tmp 17) = .pointer (some ⟨g1, 0, none⟩) from hA.eval 17 rfl)
        unfold execOp
        simp [go_sem, q0]
  case tail1 =>
    obtain ⟨q12, e5, hl12⟩ := (show ∃ q, vs 5 = Ac.v (chA (withBi X x.bi).ac (bitsN x.ac)) q ∧ LiesO v9 (chA (withBi X x.bi).ac (bitsN x.ac)) q from hR 5 (by decide))
    have e6 : vs 6 = .pointer (some ⟨g1, 3, none⟩) := hR 6 (by decide)
    have S := Lib.hid (S.out.on hb)
    have Hg1 := Lib.hid (Hg1.out.on hb)
    have Hg2 := Lib.hid (Hg2.out.on hb)
    have Hg3 := Lib.hid (Hg3.out.on hb)
    have hxe : withAc (withBi X x.bi) (chA (withBi X x.bi).ac (bitsN x.ac)) = x := HXE.out
    obtain ⟨L12, hL12⟩ : ∃ L, chA (withBi X x.bi).ac (bitsN x.ac) = L := ⟨_, rfl⟩
    rw [hL12] at e5 hl12 hxe
    clear hL12 hR hb
    obtain ⟨U6, hU6⟩ : ∃ Zz, Zz = World.setRow v9 g1 (At.c (withAc (withBi X x.bi) L12) ⟨q12, rw1.q, rw1.X, rw1.n⟩) := ⟨_, rfl⟩
    have s5 := S.out.turn HLg1.out (At.c (withAc (withBi X x.bi) L12) ⟨q12, rw1.q, rw1.X, rw1.n⟩)
    have k1 := Hg1.out.put (Hg1.out.ow.acc hl12)
    have k2 := Hg2.out.other Hg1.out.bt (Nat.ne_of_gt HLg2.out.2) (At.c (withAc (withBi X x.bi) L12) ⟨q12, rw1.q, rw1.X, rw1.n⟩)
    have k3 := Hg3.out.other Hg1.out.bt (Nat.ne_of_gt HLg3.out.2.1) (At.c (withAc (withBi X x.bi) L12) ⟨q12, rw1.q, rw1.X, rw1.n⟩)
    have HB0 := Lib.hid Hg1.out.bt
    rw [← hU6] at s5 k1 k2 k3
    rw [hxe] at k1
    simp only [putsFrom, Act.put, List.setIfInBounds_toArray, List.set_cons_succ, List.set_cons_zero, List.take_succ_cons, List.take_zero, List.drop_succ_cons, List.drop_zero, e5, e6]
    generalize vs 0 = z0
    generalize vs 1 = z1
    generalize vs 2 = z2
    generalize vs 3 = z3
    generalize vs 4 = z4
    have S := Lib.hid s5
    have Hg1 := Lib.hid k1
    have Hg2 := Lib.hid k2
    have Hg3 := Lib.hid k3
    obtain ⟨q13, hq13⟩ : ∃ q : ALie, ⟨q12, rw1.q, rw1.X, rw1.n⟩ = q := ⟨_, rfl⟩
    have HQ := Lib.hid hq13
    clear s5 k1 k2 k3 e5 e6 hl12 hxe hq13
    go_upto_region 13 with (refine wpList_store_part rfl 28 (.tmp 123) (.tmp 122) rfl rfl g1 3 (Ac.c L12 q12).toList rfl rfl 31 _ HB0.out acl_size (Nat.le_of_ble_eq_true rfl) (acl_one _ _) (At.c (withAc (withBi X x.bi) L12) ⟨q12, rw1.q, rw1.X, rw1.n⟩) rfl ?_; rw [← hU6])
    rw [HQ.out] at Hg1
    clear hU6 HB0 HQ HXE
    go_wp2_with (first
      | (refine wpList_load_part rfl 31 (.tmp 17) rfl g1 0 rfl (At.c x q13).toList _ (Hg1.out.bt).bt0 Try.underlying31 rfl attr_size (At.v x q13) rfl ?_)
      | (refine wpList_load_part rfl 31 (.tmp 9) rfl (w.heap.size + 1) 0 rfl (At.c x p).toList _ (S.out.bt).bt0 Try.underlying31 rfl attr_size (At.v x p) rfl ?_))
    refine (rasame_self x q13 p U6 Hg1.out.li S.out.al HS.out).mono ?_
    rintro e w11 ⟨rfl, hb⟩
    have S := Lib.hid (S.out.on hb)
    have Hg2 := Lib.hid (Hg2.out.on hb)
    have Hg3 := Lib.hid (Hg3.out.on hb)
    clear hb Hg1
    go_upto_if 129 with (fail)
    go_cut [128] (fun v wx => v = .int .i64 N2 ∧ Hid (Pk w wx c A n x p l pl ∧ Ho wx g3 Z rw3))
    case first => as_aux_lemma =>
      by_cases hn2 : N2 = 0
      case neg => as_aux_lemma =>
        have d2 : (N2 == 0) = false := by rw [beq_eq_false_iff_ne]; exact hn2
        clear hn2
        go_wp2_with (fail)
        go_meet
        exact ⟨rfl, Lib.hid ⟨S.out, Hg3.out⟩⟩
      case pos => as_aux_lemma =>
        have d2 : (N2 == 0) = true := by rw [hn2]; rfl
        obtain ⟨hid, hyo, hy1, hyu, hyg, hyx⟩ := HCF.out hn2
        have hug : (-1 ≤ u ∧ u ≤ 65535) ∧ -1 ≤ g ∧ g ≤ 65535 := by
          unfold idB at hid
          rw [Bool.and_eq_true, Bool.and_eq_true, Bool.and_eq_true, decide_eq_true_eq, decide_eq_true_eq, decide_eq_true_eq, decide_eq_true_eq] at hid
          exact hid
        unfold becN at hyu hyg
        have hY8 := may8 HMY.out
        obtain ⟨a1, ha1⟩ : ∃ a, x.bi &&& 1 = a := ⟨_, rfl⟩
        rw [ha1] at hy1
        have e1 : bits .and .u8 (Y.bi : Int) 1 = (a1 : Int) := by rw [← hy1]; exact and8 Y.bi 1 (by omega) (by decide)
        have e2 : bits .and .u8 (x.bi : Int) 1 = (a1 : Int) := by rw [← ha1]; exact and8 x.bi 1 (by omega) (by decide)
        have e3 : (Y.bi : Int) % 2 = (a1 : Int) := by rw [Nat.and_one_is_mod] at hy1; omega
        have e4 : (x.bi : Int) % 2 = (a1 : Int) := by rw [Nat.and_one_is_mod] at ha1; omega
        have e5 : bits .andNot .u8 (Y.bi : Int) (x.bi : Int) = 0 := by rw [offNN Y.bi x.bi hY8 hx8, hyo]; rfl
        have HUG := Lib.hid hug
        have HYU := Lib.hid hyu
        have HYG := Lib.hid hyg
        have HYX := Lib.hid hyx
        clear hn2 hid hyo hy1 ha1 hyu hyg hyx hug
        go_upto_region 16 with (fail)
        go_cut [128, 193] (fun s1 s2 wx => s1 = .int .i64 N2 ∧ s2 = .bool false ∧ Hid (Pk w wx c A n x p l pl ∧ (Ho wx g2 Y rw2 ∧ Ho wx g3 Z rw3)))
        case first => as_aux_lemma =>
          by_cases hu : u = -1
          case pos => as_aux_lemma =>
            have HYU2 : Hid (Y.ui = x.ui) := Lib.hid (by rw [HYU.out, if_pos hu])
            have HYU := HYU2
            by_cases hg : g = -1
            case pos => as_aux_lemma =>
              have HYG2 : Hid (Y.gi = x.gi) := Lib.hid (by rw [HYG.out, if_pos hg])
              have HYG := HYG2
              have HU1 := Lib.hid hu
              have HG1 := Lib.hid hg
              obtain ⟨wu1, wu2, wu3⟩ := told_m HU1.out HYU.out
              obtain ⟨wg1, wg2, wg3⟩ := told_m HG1.out HYG.out
              clear hu hg
              go_wp2_with (refine wpList_load_part rfl 31 (.tmp 19) rfl g2 0 rfl (At.c Y rw2).toList _ (Hg2.out.bt).bt0 Try.underlying31 rfl attr_size (At.v Y rw2) rfl ?_)
              refine (acheck_calls Y rw2 w11 Hg2.out.li (asm_of HMY.out)).mono ?_
              rintro e w12 ⟨rfl, hb⟩
              have S := Lib.hid (S.out.on hb)
              have Hg2 := Lib.hid (Hg2.out.on hb)
              have Hg3 := Lib.hid (Hg3.out.on hb)
              clear hb
              rw [HMY.out, ckN_true]
              have y0 := Hg2.out.bt.c0
              have y1 := Hg2.out.bt.c1
              have y2 := Hg2.out.bt.c2
              have ya0 := S.out.bt.c0
              have ya1 := S.out.bt.c1
              have ya2 := S.out.bt.c2
              go_wp2_with (fail)
              go_meet
              exact ⟨rfl, rfl, Lib.hid ⟨S.out, Hg2.out, Hg3.out⟩⟩
            case neg => as_aux_lemma =>
              have HYG2 : Hid (Y.gi = g.toNat) := Lib.hid (by rw [HYG.out, if_neg hg])
              have HYG := HYG2
              have HU1 := Lib.hid hu
              have HG1 := Lib.hid hg
              obtain ⟨wu1, wu2, wu3⟩ := told_m HU1.out HYU.out
              obtain ⟨wg1, wg2, wg3⟩ := told_n HUG.out.2.1 HUG.out.2.2 HG1.out HYG.out
              clear hu hg
              go_wp2_with (refine wpList_load_part rfl 31 (.tmp 19) rfl g2 0 rfl (At.c Y rw2).toList _ (Hg2.out.bt).bt0 Try.underlying31 rfl attr_size (At.v Y rw2) rfl ?_)
              refine (acheck_calls Y rw2 w11 Hg2.out.li (asm_of HMY.out)).mono ?_
              rintro e w12 ⟨rfl, hb⟩
              have S := Lib.hid (S.out.on hb)
              have Hg2 := Lib.hid (Hg2.out.on hb)
              have Hg3 := Lib.hid (Hg3.out.on hb)
              clear hb
              rw [HMY.out, ckN_true]
              have y0 := Hg2.out.bt.c0
              have y1 := Hg2.out.bt.c1
              have y2 := Hg2.out.bt.c2
              have ya0 := S.out.bt.c0
              have ya1 := S.out.bt.c1
              have ya2 := S.out.bt.c2
              go_wp2_with (fail)
              go_meet
              exact ⟨rfl, rfl, Lib.hid ⟨S.out, Hg2.out, Hg3.out⟩⟩
          case neg => as_aux_lemma =>
            have HYU2 : Hid (Y.ui = u.toNat) := Lib.hid (by rw [HYU.out, if_neg hu])
            have HYU := HYU2
            by_cases hg : g = -1
            case pos => as_aux_lemma =>
              have HYG2 : Hid (Y.gi = x.gi) := Lib.hid (by rw [HYG.out, if_pos hg])
              have HYG := HYG2
              have HU1 := Lib.hid hu
              have HG1 := Lib.hid hg
              obtain ⟨wu1, wu2, wu3⟩ := told_n HUG.out.1.1 HUG.out.1.2 HU1.out HYU.out
              obtain ⟨wg1, wg2, wg3⟩ := told_m HG1.out HYG.out
              clear hu hg
              go_wp2_with (refine wpList_load_part rfl 31 (.tmp 19) rfl g2 0 rfl (At.c Y rw2).toList _ (Hg2.out.bt).bt0 Try.underlying31 rfl attr_size (At.v Y rw2) rfl ?_)
              refine (acheck_calls Y rw2 w11 Hg2.out.li (asm_of HMY.out)).mono ?_
              rintro e w12 ⟨rfl, hb⟩
              have S := Lib.hid (S.out.on hb)
              have Hg2 := Lib.hid (Hg2.out.on hb)
              have Hg3 := Lib.hid (Hg3.out.on hb)
              clear hb
              rw [HMY.out, ckN_true]
              have y0 := Hg2.out.bt.c0
              have y1 := Hg2.out.bt.c1
              have y2 := Hg2.out.bt.c2
              have ya0 := S.out.bt.c0
              have ya1 := S.out.bt.c1
              have ya2 := S.out.bt.c2
              go_wp2_with (fail)
              go_meet
              exact ⟨rfl, rfl, Lib.hid ⟨S.out, Hg2.out, Hg3.out⟩⟩
            case neg => as_aux_lemma =>
              have HYG2 : Hid (Y.gi = g.toNat) := Lib.hid (by rw [HYG.out, if_neg hg])
              have HYG := HYG2
              have HU1 := Lib.hid hu
              have HG1 := Lib.hid hg
              obtain ⟨wu1, wu2, wu3⟩ := told_n HUG.out.1.1 HUG.out.1.2 HU1.out HYU.out
              obtain ⟨wg1, wg2, wg3⟩ := told_n HUG.out.2.1 HUG.out.2.2 HG1.out HYG.out
              clear hu hg
              go_wp2_with (refine wpList_load_part rfl 31 (.tmp 19) rfl g2 0 rfl (At.c Y rw2).toList _ (Hg2.out.bt).bt0 Try.underlying31 rfl attr_size (At.v Y rw2) rfl ?_)
              refine (acheck_calls Y rw2 w11 Hg2.out.li (asm_of HMY.out)).mono ?_
              rintro e w12 ⟨rfl, hb⟩
              have S := Lib.hid (S.out.on hb)
              have Hg2 := Lib.hid (Hg2.out.on hb)
              have Hg3 := Lib.hid (Hg3.out.on hb)
              clear hb
              rw [HMY.out, ckN_true]
              have y0 := Hg2.out.bt.c0
              have y1 := Hg2.out.bt.c1
              have y2 := Hg2.out.bt.c2
              have ya0 := S.out.bt.c0
              have ya1 := S.out.bt.c1
              have ya2 := S.out.bt.c2
              go_wp2_with (fail)
              go_meet
              exact ⟨rfl, rfl, Lib.hid ⟨S.out, Hg2.out, Hg3.out⟩⟩
        case rest => as_aux_lemma =>
          obtain ⟨rfl, rfl, hrz⟩ := hcut
          have S := Lib.hid hrz.out.1
          have Hg2 := Lib.hid hrz.out.2.1
          have Hg3 := Lib.hid hrz.out.2.2
          clear hrz e1 e2 e3 e4 e5 HUG HYU HYG
          go_upto_region 18 with (fail)
          have ya := S.out.bt.c1
          obtain ⟨Q0, hU⟩ : ∃ Zz, Zz = World.setRow wc g2 (At.c (withId Y x.ui Y.gi) rw2) := ⟨_, rfl⟩
          have s5 := S.out.turn HLg2.out.1 (At.c (withId Y x.ui Y.gi) rw2)
          have k2 := Hg2.out.put (y := withId Y x.ui Y.gi) (r := rw2) ⟨Hg2.out.ow.ac, Hg2.out.ow.df, Hg2.out.ow.xs⟩
          have k3 := Hg3.out.other Hg2.out.bt (Nat.ne_of_gt HLg3.out.2.2) (At.c (withId Y x.ui Y.gi) rw2)
          have HB0 := Lib.hid Hg2.out.bt
          rw [← hU] at s5 k2 k3
          have S := Lib.hid s5
          have Hg2 := Lib.hid k2
          have Hg3 := Lib.hid k3
          clear s5 k2 k3
          go_upto_region 19 with (refine wpList_store_part rfl 22 (.tmp 196) (.tmp 195) rfl rfl g2 1 [.int .u16 (x.ui : Nat)] rfl rfl 31 _ HB0.out u16_size (Nat.le_of_ble_eq_true rfl) (one_of rfl) (At.c (withId Y x.ui Y.gi) rw2) rfl ?_; rw [← hU])
          clear hU ya HB0
          have ya := S.out.bt.c2
          obtain ⟨Q1, hU⟩ : ∃ Zz, Zz = World.setRow Q0 g2 (At.c (withId Y x.ui x.gi) rw2) := ⟨_, rfl⟩
          have s5 := S.out.turn HLg2.out.1 (At.c (withId Y x.ui x.gi) rw2)
          have k2 := Hg2.out.put (y := withId Y x.ui x.gi) (r := rw2) ⟨Hg2.out.ow.ac, Hg2.out.ow.df, Hg2.out.ow.xs⟩
          have k3 := Hg3.out.other Hg2.out.bt (Nat.ne_of_gt HLg3.out.2.2) (At.c (withId Y x.ui x.gi) rw2)
          have HB0 := Lib.hid Hg2.out.bt
          rw [← hU] at s5 k2 k3
          have S := Lib.hid s5
          have Hg2 := Lib.hid k2
          have Hg3 := Lib.hid k3
          clear s5 k2 k3
          go_upto_region 20 with (refine wpList_store_part rfl 22 (.tmp 199) (.tmp 198) rfl rfl g2 2 [.int .u16 (x.gi : Nat)] rfl rfl 31 _ HB0.out u16_size (Nat.le_of_ble_eq_true rfl) (one_of rfl) (At.c (withId Y x.ui x.gi) rw2) rfl ?_; rw [← hU])
          clear hU ya HB0
          have ya := S.out.bt.c0
          obtain ⟨Q2, hU⟩ : ∃ Zz, Zz = World.setRow Q1 g2 (At.c (withBi (withId Y x.ui x.gi) x.bi) rw2) := ⟨_, rfl⟩
          have s5 := S.out.turn HLg2.out.1 (At.c (withBi (withId Y x.ui x.gi) x.bi) rw2)
          have k2 := Hg2.out.put (y := withBi (withId Y x.ui x.gi) x.bi) (r := rw2) ⟨Hg2.out.ow.ac, Hg2.out.ow.df, Hg2.out.ow.xs⟩
          have k3 := Hg3.out.other Hg2.out.bt (Nat.ne_of_gt HLg3.out.2.2) (At.c (withBi (withId Y x.ui x.gi) x.bi) rw2)
          have HB0 := Lib.hid Hg2.out.bt
          rw [← hU] at s5 k2 k3
          have S := Lib.hid s5
          have Hg2 := Lib.hid k2
          have Hg3 := Lib.hid k3
          clear s5 k2 k3
          go_upto_region 21 with (refine wpList_store_part rfl 5 (.tmp 202) (.tmp 201) rfl rfl g2 0 [.int .u8 (x.bi : Nat)] rfl rfl 31 _ HB0.out u8_size (Nat.le_of_ble_eq_true rfl) (one_of rfl) (At.c (withBi (withId Y x.ui x.gi) x.bi) rw2) rfl ?_; rw [← hU])
          clear hU ya HB0
          rw [HYX.out] at Hg2
          go_wp2_with (first
            | (refine wpList_load_part rfl 31 (.tmp 19) rfl g2 0 rfl (At.c x rw2).toList _ (Hg2.out.bt).bt0 Try.underlying31 rfl attr_size (At.v x rw2) rfl ?_)
            | (refine wpList_load_part rfl 31 (.tmp 9) rfl (w.heap.size + 1) 0 rfl (At.c x p).toList _ (S.out.bt).bt0 Try.underlying31 rfl attr_size (At.v x p) rfl ?_))
          refine (rasame_self x rw2 p Q2 Hg2.out.li S.out.al HS.out).mono ?_
          rintro e w13 ⟨rfl, hb⟩
          have S := Lib.hid (S.out.on hb)
          have Hg3 := Lib.hid (Hg3.out.on hb)
          clear hb
          go_wp2_with (fail)
          go_meet
          exact ⟨rfl, Lib.hid ⟨S.out, Hg3.out⟩⟩
    case rest => as_aux_lemma =>
      obtain ⟨rfl, hrz⟩ := hcut
      have S := Lib.hid hrz.out.1
      have Hg3 := Lib.hid hrz.out.2
      clear hrz
      by_cases hn3 : N3 = 0
      case neg => as_aux_lemma =>
        have d3 : (N3 != 0) = true := by rw [bne_iff_ne]; exact hn3
        clear hn3
        go_wp2_with (fail)
        refine (alive_calls _).mono ?_
        rintro e w99 ⟨rfl, hb⟩
        have HBZ := Lib.hid ((S.out.be).trans (hb.mono (S.out.be).size))
        clear hb
        go_wp2_with (fail)
        go_ret
        exact ⟨rfl, HBZ.out⟩
      case pos => as_aux_lemma =>
      have d3 : (N3 != 0) = false := by rw [hn3]; rfl
      obtain ⟨hwh, hwk, hze⟩ := HAF.out hn3
      have hZ8 := may8 HMZ.out
      clear hn3
      by_cases hw1 : wh = 1
      case pos => as_aux_lemma =>
        have dw1 : ((wh : Int) == 1) = true := by rw [beq_iff_eq]; omega
        obtain ⟨z1, z2, z3, z4⟩ := acl1_facts (c := c) (k := k) (l := l) HM.out
        rw [hw1] at hze
        rw [← hze] at z1 z2 z3 z4
        obtain ⟨a6, ha6⟩ : ∃ a, x.bi &&& 5 = a := ⟨_, rfl⟩
        rw [ha6] at z2
        have e1 : bits .and .u8 (Z.bi : Int) 5 = (a6 : Int) := by rw [← z2]; exact and8 Z.bi 5 (by omega) (by decide)
        have e2 : bits .and .u8 (x.bi : Int) 5 = (a6 : Int) := by rw [← ha6]; exact and8 x.bi 5 (by omega) (by decide)
        have e5 : bits .andNot .u8 (Z.bi : Int) (x.bi : Int) = 0 := by rw [offNN Z.bi x.bi hZ8 hx8, z1]; rfl
        have HZA := Lib.hid z3
        have HZX := Lib.hid z4
        clear z1 z2 z3 z4 ha6 hze hwk hwh hw1
        go_wp2_with (refine wpList_load_part rfl 31 (.tmp 21) rfl g3 0 rfl (At.c Z rw3).toList _ (Hg3.out.bt).bt0 Try.underlying31 rfl attr_size (At.v Z rw3) rfl ?_)
        refine (acheck_calls Z rw3 wc Hg3.out.li (asm_of HMZ.out)).mono ?_
        rintro e w14 ⟨rfl, hb⟩
        have S := Lib.hid (S.out.on hb)
        have Hg3 := Lib.hid (Hg3.out.on hb)
        clear hb
        rw [HMZ.out, ckN_true]
        have y0 := Hg3.out.bt.c0
        have ya0 := S.out.bt.c0
        go_upto_region 28 with (fail)
        go_wp2_with (first
          | (refine wpList_load_part rfl 28 (.tmp 223) rfl g3 3 rfl (Ac.c Z.ac rw3.p).toList _ (Hg3.out.bt.ac) Try.underlying28 rfl acl_size (Ac.v Z.ac rw3.p) rfl ?_)
          | (refine wpList_load_part rfl 28 (.tmp 15) rfl (w.heap.size + 2) 0 rfl (Ac.c l pl).toList _ (S.out.bl.part) Try.underlying28 rfl acl_size (Ac.v l pl) rfl ?_))
        refine (rlsame_calls Z.ac l rw3.p pl w14 Hg3.out.li.ac S.out.ll (asm_of HMZ.out).ac HLS.out).mono ?_
        rw [sameB_iff.2 HZA.out]
        rintro e w15 ⟨rfl, hb⟩
        have S := Lib.hid (S.out.on hb)
        have Hg3 := Lib.hid (Hg3.out.on hb)
        clear hb y0 ya0
        have y0 := Hg3.out.bt.c0
        have ya0 := S.out.bt.c0
        go_upto_region 30 with (fail)
        clear y0 ya0
        have HB0 := Lib.hid Hg3.out.bt
        obtain ⟨U7, hU⟩ : ∃ Zz, Zz = World.setRow w15 g3 (At.c (withAc Z x.ac) ⟨p.p, rw3.q, rw3.X, rw3.n⟩) := ⟨_, rfl⟩
        have s5 := S.out.turn HLg3.out.1 (At.c (withAc Z x.ac) ⟨p.p, rw3.q, rw3.X, rw3.n⟩)
        have kb : Bt U7 g3 (withAc Z x.ac) ⟨p.p, rw3.q, rw3.X, rw3.n⟩ := by rw [hU]; exact setRow_heap _ _ _ _ _ _ HB0.out
        have kr : AOw U7 Z rw3 := by rw [hU]; exact Hg3.out.ow.turn HB0.out _
        rw [← hU] at s5
        go_upto_region 31 with (first
          | (refine wpList_load_part rfl 28 (.tmp 237) rfl (w.heap.size + 1) 3 rfl (Ac.c x.ac p.p).toList _ (S.out.bt.ac) Try.underlying28 rfl acl_size (Ac.v x.ac p.p) rfl ?_)
          | (refine wpList_store_part rfl 28 (.tmp 239) (.tmp 238) rfl rfl g3 3 (Ac.c x.ac p.p).toList rfl rfl 31 _ HB0.out acl_size (Nat.le_of_ble_eq_true rfl) (acl_one _ _) (At.c (withAc Z x.ac) ⟨p.p, rw3.q, rw3.X, rw3.n⟩) rfl ?_; rw [← hU]))
        clear hU HB0
        have S := Lib.hid s5
        have HB1 := Lib.hid kb
        have HR1 := Lib.hid kr
        clear s5 kb kr
        have ya0 := S.out.bt.c0
        obtain ⟨U8, hU⟩ : ∃ Zz, Zz = World.setRow U7 g3 (At.c (withBi (withAc Z x.ac) x.bi) ⟨p.p, rw3.q, rw3.X, rw3.n⟩) := ⟨_, rfl⟩
        have s5 := S.out.turn HLg3.out.1 (At.c (withBi (withAc Z x.ac) x.bi) ⟨p.p, rw3.q, rw3.X, rw3.n⟩)
        rw [← hU] at s5
        have kb : Bt U8 g3 (withBi (withAc Z x.ac) x.bi) ⟨p.p, rw3.q, rw3.X, rw3.n⟩ := by rw [hU]; exact setRow_heap _ _ _ _ _ _ HB1.out
        have kr : AOw U8 Z rw3 := by rw [hU]; exact HR1.out.turn HB1.out _
        have kl : ALies U8 (withBi (withAc Z x.ac) x.bi) ⟨p.p, rw3.q, rw3.X, rw3.n⟩ := ⟨s5.al.ac, kr.df.lies, kr.xs.cel⟩
        rw [HZX.out] at kb kl
        have HZ9 : Hid (Hl U8 g3 x ⟨p.p, rw3.q, rw3.X, rw3.n⟩) := Lib.hid ⟨kb, kl⟩
        go_upto_region 36 with (refine wpList_store_part rfl 5 (.tmp 242) (.tmp 241) rfl rfl g3 0 [.int .u8 ((x.bi : Nat) : Int)] rfl rfl 31 _ HB1.out u8_size (Nat.le_of_ble_eq_true rfl) (one_of rfl) (At.c (withBi (withAc Z x.ac) x.bi) ⟨p.p, rw3.q, rw3.X, rw3.n⟩) rfl ?_; rw [← hU])
        have S := Lib.hid s5
        clear hU s5 kb kr kl ya0 HB1 HR1
        obtain ⟨pz, hpz⟩ : ∃ q : ALie, ⟨p.p, rw3.q, rw3.X, rw3.n⟩ = q := ⟨_, rfl⟩
        rw [hpz] at HZ9
        clear hpz
        go_wp2_with (first
          | (refine wpList_load_part rfl 31 (.tmp 21) rfl g3 0 rfl (At.c x pz).toList _ (HZ9.out.bt).bt0 Try.underlying31 rfl attr_size (At.v x pz) rfl ?_)
          | (refine wpList_load_part rfl 31 (.tmp 9) rfl (w.heap.size + 1) 0 rfl (At.c x p).toList _ (S.out.bt).bt0 Try.underlying31 rfl attr_size (At.v x p) rfl ?_))
        refine (rasame_self x pz p U8 HZ9.out.li S.out.al HS.out).mono ?_
        rintro e w20 ⟨rfl, hb⟩
        have S := Lib.hid (S.out.on hb)
        clear hb
        go_wp2_with (fail)
        refine (alive_calls _).mono ?_
        rintro e w99 ⟨rfl, hb⟩
        have HBZ := Lib.hid ((S.out.be).trans (hb.mono (S.out.be).size))
        clear hb
        go_wp2_with (fail)
        go_ret
        exact ⟨rfl, HBZ.out⟩
      case neg => as_aux_lemma =>
      have dw1 : ((wh : Int) == 1) = false := by rw [beq_eq_false_iff_ne]; omega
      have hk2 : k = 2 := hwk.elim (fun h => absurd h hw1) id
      have dk : ((k : Int) != 2) = false := by rw [hk2]; rfl
      clear hk2 hwk
      by_cases hw2 : wh = 2
      case pos => as_aux_lemma =>
        have dw2 : ((wh : Int) == 2) = true := by rw [beq_iff_eq]; omega
        rw [hw2] at hze
        have hz2 : Z = withDf x true l := hze
        have e5 : bits .andNot .u8 (Z.bi : Int) (x.bi : Int) = 0 := by rw [hz2]; show bits .andNot .u8 (x.bi : Int) (x.bi : Int) = 0; rw [offNN x.bi x.bi hx8 hx8, off_self x.bi hx8]; rfl
        have HZH : Hid (Z.hd = true) := Lib.hid (by rw [hz2]; rfl)
        have HZA : Hid (Z.df = l) := Lib.hid (by rw [hz2]; rfl)
        have HZX : Hid (withDf Z x.hd x.df = x) := Lib.hid (by rw [hz2]; rfl)
        clear hz2 hze hw2 hw1 hwh
        go_wp2_with (refine wpList_load_part rfl 31 (.tmp 21) rfl g3 0 rfl (At.c Z rw3).toList _ (Hg3.out.bt).bt0 Try.underlying31 rfl attr_size (At.v Z rw3) rfl ?_)
        refine (acheck_calls Z rw3 wc Hg3.out.li (asm_of HMZ.out)).mono ?_
        rintro e w14 ⟨rfl, hb⟩
        have S := Lib.hid (S.out.on hb)
        have Hg3 := Lib.hid (Hg3.out.on hb)
        clear hb
        rw [HMZ.out, ckN_true]
        have y0 := Hg3.out.bt.c0
        have ya0 := S.out.bt.c0
        have yh : w14.cell? ⟨g3, 10, none⟩ = some (.bool Z.hd) := Hg3.out.bt.c10
        rw [HZH.out] at yh
        go_upto_region 32 with (fail)
        go_wp2_with (first
          | (refine wpList_load_part rfl 28 (.tmp 256) rfl g3 11 rfl (Ac.c Z.df rw3.q).toList _ (Hg3.out.bt.df) Try.underlying28 rfl acl_size (Ac.v Z.df rw3.q) rfl ?_)
          | (refine wpList_load_part rfl 28 (.tmp 15) rfl (w.heap.size + 2) 0 rfl (Ac.c l pl).toList _ (S.out.bl.part) Try.underlying28 rfl acl_size (Ac.v l pl) rfl ?_))
        refine (rlsame_calls Z.df l rw3.q pl w14 Hg3.out.li.df S.out.ll (asm_of HMZ.out).df HLS.out).mono ?_
        rw [sameB_iff.2 HZA.out]
        rintro e w15 ⟨rfl, hb⟩
        have S := Lib.hid (S.out.on hb)
        have Hg3 := Lib.hid (Hg3.out.on hb)
        clear hb
        go_upto_region 34 with (fail)
        clear y0 ya0 yh
        have ya1 := S.out.bt.c10
        have HB0 := Lib.hid Hg3.out.bt
        obtain ⟨U7, hU⟩ : ∃ Zz, Zz = World.setRow w15 g3 (At.c (withDf Z x.hd Z.df) rw3) := ⟨_, rfl⟩
        have s5 := S.out.turn HLg3.out.1 (At.c (withDf Z x.hd Z.df) rw3)
        have kb : Bt U7 g3 (withDf Z x.hd Z.df) rw3 := by rw [hU]; exact setRow_heap _ _ _ _ _ _ HB0.out
        have kr : AOw U7 Z rw3 := by rw [hU]; exact Hg3.out.ow.turn HB0.out _
        rw [← hU] at s5
        go_upto_region 35 with (refine wpList_store_part rfl 4 (.tmp 265) (.tmp 264) rfl rfl g3 10 [.bool x.hd] rfl rfl 31 _ HB0.out bool_size (Nat.le_of_ble_eq_true rfl) (one_of rfl) (At.c (withDf Z x.hd Z.df) rw3) rfl ?_; rw [← hU])
        clear hU HB0 ya1
        have S := Lib.hid s5
        have HB1 := Lib.hid kb
        have HR1 := Lib.hid kr
        clear s5 kb kr
        obtain ⟨U8, hU⟩ : ∃ Zz, Zz = World.setRow U7 g3 (At.c (withDf Z x.hd x.df) ⟨rw3.p, p.q, rw3.X, rw3.n⟩) := ⟨_, rfl⟩
        have s5 := S.out.turn HLg3.out.1 (At.c (withDf Z x.hd x.df) ⟨rw3.p, p.q, rw3.X, rw3.n⟩)
        rw [← hU] at s5
        have kb : Bt U8 g3 (withDf Z x.hd x.df) ⟨rw3.p, p.q, rw3.X, rw3.n⟩ := by rw [hU]; exact setRow_heap _ _ _ _ _ _ HB1.out
        have kr : AOw U8 Z rw3 := by rw [hU]; exact HR1.out.turn HB1.out _
        have kl : ALies U8 (withDf Z x.hd x.df) ⟨rw3.p, p.q, rw3.X, rw3.n⟩ := ⟨kr.ac.lies, s5.al.df, kr.xs.cel⟩
        rw [HZX.out] at kb kl
        have HZ9 : Hid (Hl U8 g3 x ⟨rw3.p, p.q, rw3.X, rw3.n⟩) := Lib.hid ⟨kb, kl⟩
        go_upto_region 36 with (first
          | (refine wpList_load_part rfl 28 (.tmp 266) rfl (w.heap.size + 1) 11 rfl (Ac.c x.df p.q).toList _ (S.out.bt.df) Try.underlying28 rfl acl_size (Ac.v x.df p.q) rfl ?_)
          | (refine wpList_store_part rfl 28 (.tmp 268) (.tmp 267) rfl rfl g3 11 (Ac.c x.df p.q).toList rfl rfl 31 _ HB1.out acl_size (Nat.le_of_ble_eq_true rfl) (acl_one _ _) (At.c (withDf Z x.hd x.df) ⟨rw3.p, p.q, rw3.X, rw3.n⟩) rfl ?_; rw [← hU]))
        have S := Lib.hid s5
        clear hU s5 kb kr kl HB1 HR1
        obtain ⟨pz, hpz⟩ : ∃ q : ALie, ⟨rw3.p, p.q, rw3.X, rw3.n⟩ = q := ⟨_, rfl⟩
        rw [hpz] at HZ9
        clear hpz
        go_wp2_with (first
          | (refine wpList_load_part rfl 31 (.tmp 21) rfl g3 0 rfl (At.c x pz).toList _ (HZ9.out.bt).bt0 Try.underlying31 rfl attr_size (At.v x pz) rfl ?_)
          | (refine wpList_load_part rfl 31 (.tmp 9) rfl (w.heap.size + 1) 0 rfl (At.c x p).toList _ (S.out.bt).bt0 Try.underlying31 rfl attr_size (At.v x p) rfl ?_))
        refine (rasame_self x pz p U8 HZ9.out.li S.out.al HS.out).mono ?_
        rintro e w20 ⟨rfl, hb⟩
        have S := Lib.hid (S.out.on hb)
        clear hb
        go_wp2_with (fail)
        refine (alive_calls _).mono ?_
        rintro e w99 ⟨rfl, hb⟩
        have HBZ := Lib.hid ((S.out.be).trans (hb.mono (S.out.be).size))
        clear hb
        go_wp2_with (fail)
        go_ret
        exact ⟨rfl, HBZ.out⟩
      case neg => as_aux_lemma =>
        have dw2 : ((wh : Int) == 2) = false := by rw [beq_eq_false_iff_ne]; omega
        have hw3 : wh = 3 := by omega
        rw [hw3] at hze
        have hz2 : Z = withDf x false acZ := hze
        have e5 : bits .andNot .u8 (Z.bi : Int) (x.bi : Int) = 0 := by rw [hz2]; show bits .andNot .u8 (x.bi : Int) (x.bi : Int) = 0; rw [offNN x.bi x.bi hx8 hx8, off_self x.bi hx8]; rfl
        have HZH : Hid (Z.hd = false) := Lib.hid (by rw [hz2]; rfl)
        have HZX : Hid (withDf Z x.hd x.df = x) := Lib.hid (by rw [hz2]; rfl)
        clear hz2 hze hw3 hw2 hw1 hwh
        go_wp2_with (refine wpList_load_part rfl 31 (.tmp 21) rfl g3 0 rfl (At.c Z rw3).toList _ (Hg3.out.bt).bt0 Try.underlying31 rfl attr_size (At.v Z rw3) rfl ?_)
        refine (acheck_calls Z rw3 wc Hg3.out.li (asm_of HMZ.out)).mono ?_
        rintro e w14 ⟨rfl, hb⟩
        have S := Lib.hid (S.out.on hb)
        have Hg3 := Lib.hid (Hg3.out.on hb)
        clear hb
        rw [HMZ.out, ckN_true]
        have y0 := Hg3.out.bt.c0
        have ya0 := S.out.bt.c0
        have yh : w14.cell? ⟨g3, 10, none⟩ = some (.bool Z.hd) := Hg3.out.bt.c10
        rw [HZH.out] at yh
        go_upto_region 32 with (fail)
        go_upto_region 34 with (fail)
        clear y0 ya0 yh
        have ya1 := S.out.bt.c10
        have HB0 := Lib.hid Hg3.out.bt
        obtain ⟨U7, hU⟩ : ∃ Zz, Zz = World.setRow w14 g3 (At.c (withDf Z x.hd Z.df) rw3) := ⟨_, rfl⟩
        have s5 := S.out.turn HLg3.out.1 (At.c (withDf Z x.hd Z.df) rw3)
        have kb : Bt U7 g3 (withDf Z x.hd Z.df) rw3 := by rw [hU]; exact setRow_heap _ _ _ _ _ _ HB0.out
        have kr : AOw U7 Z rw3 := by rw [hU]; exact Hg3.out.ow.turn HB0.out _
        rw [← hU] at s5
        go_upto_region 35 with (refine wpList_store_part rfl 4 (.tmp 265) (.tmp 264) rfl rfl g3 10 [.bool x.hd] rfl rfl 31 _ HB0.out bool_size (Nat.le_of_ble_eq_true rfl) (one_of rfl) (At.c (withDf Z x.hd Z.df) rw3) rfl ?_; rw [← hU])
        clear hU HB0 ya1
        have S := Lib.hid s5
        have HB1 := Lib.hid kb
        have HR1 := Lib.hid kr
        clear s5 kb kr
        obtain ⟨U8, hU⟩ : ∃ Zz, Zz = World.setRow U7 g3 (At.c (withDf Z x.hd x.df) ⟨rw3.p, p.q, rw3.X, rw3.n⟩) := ⟨_, rfl⟩
        have s5 := S.out.turn HLg3.out.1 (At.c (withDf Z x.hd x.df) ⟨rw3.p, p.q, rw3.X, rw3.n⟩)
        rw [← hU] at s5
        have kb : Bt U8 g3 (withDf Z x.hd x.df) ⟨rw3.p, p.q, rw3.X, rw3.n⟩ := by rw [hU]; exact setRow_heap _ _ _ _ _ _ HB1.out
        have kr : AOw U8 Z rw3 := by rw [hU]; exact HR1.out.turn HB1.out _
        have kl : ALies U8 (withDf Z x.hd x.df) ⟨rw3.p, p.q, rw3.X, rw3.n⟩ := ⟨kr.ac.lies, s5.al.df, kr.xs.cel⟩
        rw [HZX.out] at kb kl
        have HZ9 : Hid (Hl U8 g3 x ⟨rw3.p, p.q, rw3.X, rw3.n⟩) := Lib.hid ⟨kb, kl⟩
        go_upto_region 36 with (first
          | (refine wpList_load_part rfl 28 (.tmp 266) rfl (w.heap.size + 1) 11 rfl (Ac.c x.df p.q).toList _ (S.out.bt.df) Try.underlying28 rfl acl_size (Ac.v x.df p.q) rfl ?_)
          | (refine wpList_store_part rfl 28 (.tmp 268) (.tmp 267) rfl rfl g3 11 (Ac.c x.df p.q).toList rfl rfl 31 _ HB1.out acl_size (Nat.le_of_ble_eq_true rfl) (acl_one _ _) (At.c (withDf Z x.hd x.df) ⟨rw3.p, p.q, rw3.X, rw3.n⟩) rfl ?_; rw [← hU]))
        have S := Lib.hid s5
        clear hU s5 kb kr kl HB1 HR1
        obtain ⟨pz, hpz⟩ : ∃ q : ALie, ⟨rw3.p, p.q, rw3.X, rw3.n⟩ = q := ⟨_, rfl⟩
        rw [hpz] at HZ9
        clear hpz
        go_wp2_with (first
          | (refine wpList_load_part rfl 31 (.tmp 21) rfl g3 0 rfl (At.c x pz).toList _ (HZ9.out.bt).bt0 Try.underlying31 rfl attr_size (At.v x pz) rfl ?_)
          | (refine wpList_load_part rfl 31 (.tmp 9) rfl (w.heap.size + 1) 0 rfl (At.c x p).toList _ (S.out.bt).bt0 Try.underlying31 rfl attr_size (At.v x p) rfl ?_))
        refine (rasame_self x pz p U8 HZ9.out.li S.out.al HS.out).mono ?_
        rintro e w20 ⟨rfl, hb⟩
        have S := Lib.hid (S.out.on hb)
        clear hb
        go_wp2_with (fail)
        refine (alive_calls _).mono ?_
        rintro e w99 ⟨rfl, hb⟩
        have HBZ := Lib.hid ((S.out.be).trans (hb.mono (S.out.be).size))
        clear hb
        go_wp2_with (fail)
        go_ret
        exact ⟨rfl, HBZ.out⟩
end Go.Proofs.Ytdioafoikcfhhaa
