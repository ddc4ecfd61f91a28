/- OwnerTurns: whatever it is called with, it hands back true. -/
import Derived.Test.YtdioafoikcfhhaaPg
set_option linter.unusedSimpArgs false
set_option linter.unusedVariables false
set_option linter.unusedSimpArgs false
set_option linter.unusedVariables false
namespace Go.Proofs.Ytdioafoikcfhhaa
open Go.RowKit
theorem same_self (x : At) (p q : ALie) (m : Int) (w : World) (h1 : ALies w x p) (h2 : ALies w x q) (hs : ASm x) : Calls Try.prog 15 #[x.v p, .int .i64 m, x.v q, .int .i64 m] w fun e w' => e = .returned (.bool true) ∧ Below w.heap.size w w' := by
  have h := same_calls x x p q m m w h1 h2 hs hs
  rwa [asameB_self, decide_eq_true rfl] at h
theorem rwritten_att (c : Cr) (A : Option Addr) (n : Nat) (x : At) (p : ALie) (w : World) (hc : CLies w c A) (h : ALies w x p) (hs : ASm x) (hk : Ks x) :
    Calls Try.prog 20 #[c.v A n, x.v p] w fun e w' => ∃ q, e = .returned (At.v (wriA c x) q) ∧ ALies w' (wriA c x) q ∧ Below w.heap.size w w' :=
  (rwritteno_calls c A n x p w hc h hs hk).mono fun e w' ⟨q, h1, h2, h3⟩ => ⟨q, h1, h2.lies, h3⟩
set_option maxRecDepth 100000 in
set_option maxHeartbeats 16000000 in
theorem turns_law (c : Cr) (A : Option Addr) (n : Nat) (x : At) (p : ALie) (k m : Nat) (u g : Int) (w : World) (hc : CLies w c A) (h : ALies w x p) (hsx : ABg x) (hm6 : m < 65536) (hxu : x.ui < 65536) (hxg : x.gi < 65536) :
    Calls Try.prog 3 #[c.v A n, x.v p, .int .u8 (k : Nat), .int .u16 (m : Nat), .int .i64 u, .int .i64 g] w fun e w' => e = .returned (.bool true) ∧ Below w.heap.size w w' := by
  obtain ⟨V, hV⟩ : ∃ V, V = (w.alloc (.cells (c.c A n) 25)).alloc (.cells (x.c p) 31) := ⟨_, rfl⟩
  have S0 : Hid (Pb w V c A n x p) := Lib.hid (by rw [hV]; exact Pb.start hc h)
  have HGX := Lib.hid hsx
  clear h hc hsx
  go_enter Try.func3, Try.ntmps3
  go_upto_region 1 with (fail)
  rw [← hV]
  clear hV
  go_wp2_with (first
  | (refine wpList_load_part rfl 25 (.tmp 6) rfl w.heap.size 0 rfl (Cr.c c A n).toList _ (S0.out.cb).all Try.underlying25 rfl cred_size (Cr.v c A n) rfl ?_)
  | (refine wpList_load_part rfl 31 (.tmp 7) rfl (w.heap.size + 1) 0 rfl (At.c x p).toList _ (S0.out.bt).bt0 Try.underlying31 rfl attr_size (At.v x p) rfl ?_))
  refine (glarge_calls c A n x p V S0.out.cl S0.out.al HGX.out).mono ?_
  rintro e w1 ⟨rfl, hb⟩
  have S1 := Lib.hid (S0.out.on hb)
  clear hb S0
  cases hlx : largeG c x
  case true =>
    clear hlx
    go_wp2_with (fail)
    refine (alive_calls _).mono ?_
    rintro e w99 ⟨rfl, hb⟩
    have HBZ := Lib.hid ((S1.out.be).trans (hb.mono (S1.out.be).size))
    clear hb
    go_wp2_with (fail)
    go_ret
    exact ⟨rfl, HBZ.out⟩
  case false =>
  have HS := Lib.hid (largeG_no hlx).1
  have HK := Lib.hid (largeG_no hlx).2.1
  clear hlx
  obtain ⟨X, hX⟩ : ∃ X, chmA c x k m = X := ⟨_, rfl⟩
  obtain ⟨N, hN⟩ : ∃ N, chmN c x = N := ⟨_, rfl⟩
  obtain ⟨Y, hY⟩ : ∃ Y, choA c x k u g = Y := ⟨_, rfl⟩
  obtain ⟨M, hM⟩ : ∃ M, choN c x u g = M := ⟨_, rfl⟩
  obtain ⟨Z, hZ⟩ : ∃ Z, wriA c x = Z := ⟨_, rfl⟩
  obtain ⟨tt, hto⟩ : ∃ b, ownB c x = b := ⟨_, rfl⟩
  have HMX : Hid (amayB X = true) := Lib.hid (by rw [← hX]; exact may_chmA c x k m)
  have HMY : Hid (amayB Y = true) := Lib.hid (by rw [← hY]; exact may_choA c x k u g)
  have HMZ : Hid (amayB Z = true) := Lib.hid (by rw [← hZ]; exact may_wriA c x)
  have HC1 : Hid (∀ (p : ALie) v, CLies v c A → ALies v x p → Calls Try.prog 11 #[c.v A n, x.v p, .int .u8 (k : Nat), .int .u16 (m : Nat)] v fun e w' => ∃ q, e = .returned (.tuple #[At.v X q, .int .i64 N]) ∧ AOw w' X q ∧ Below v.heap.size v w') := Lib.hid (fun p v h1 h2 => by
    have h := chmodo_calls c A n x p k m v h1 h2 HS.out hm6
    rwa [hX, hN] at h)
  have HC2 : Hid (∀ v, CLies v c A → ALies v x p → Calls Try.prog 12 #[c.v A n, x.v p, .int .u8 (k : Nat), .int .u16 (m : Nat)] v fun e w' => ∃ q, e = .returned (.tuple #[At.v X q, .int .i64 N]) ∧ AOw w' X q ∧ Below v.heap.size v w') := Lib.hid (fun v h1 h2 => by
    have h := rchmodo_calls c A n x p k m v h1 h2 HS.out HK.out hm6
    rwa [hX, hN] at h)
  have HC3 : Hid (∀ (p : ALie) v, CLies v c A → ALies v x p → Calls Try.prog 13 #[c.v A n, x.v p, .int .u8 (k : Nat), .int .i64 u, .int .i64 g] v fun e w' => ∃ q, e = .returned (.tuple #[At.v Y q, .int .i64 M]) ∧ AOw w' Y q ∧ Below v.heap.size v w') := Lib.hid (fun p v h1 h2 => by
    have h := chowno_calls c A n x p k u g v h1 h2 HS.out
    rwa [hY, hM] at h)
  have HC4 : Hid (∀ v, CLies v c A → ALies v x p → Calls Try.prog 14 #[c.v A n, x.v p, .int .u8 (k : Nat), .int .i64 u, .int .i64 g] v fun e w' => ∃ q, e = .returned (.tuple #[At.v Y q, .int .i64 M]) ∧ AOw w' Y q ∧ Below v.heap.size v w') := Lib.hid (fun v h1 h2 => by
    have h := rchowno_calls c A n x p k u g v h1 h2 HS.out HK.out hxu hxg
    rwa [hY, hM] at h)
  have HOW : Hid (∀ (p : ALie) v, CLies v c A → ALies v x p → Calls Try.prog 16 #[c.v A n, x.v p] v fun e w' => e = .returned (.bool tt) ∧ Below v.heap.size v w') := Lib.hid (fun p v h1 h2 => hto ▸ ownso_calls c A n x p v h1 h2 HS.out)
  have HRO : Hid (∀ v, CLies v c A → ALies v x p → Calls Try.prog 17 #[c.v A n, x.v p] v fun e w' => e = .returned (.bool tt) ∧ Below v.heap.size v w') := Lib.hid (fun v h1 h2 => hto ▸ rownso_calls c A n x p v h1 h2 HS.out HK.out)
  have HWR : Hid (∀ (p : ALie) v, CLies v c A → ALies v x p → Calls Try.prog 19 #[c.v A n, x.v p] v fun e w' => ∃ q, e = .returned (At.v Z q) ∧ ALies w' Z q ∧ Below v.heap.size v w') := Lib.hid (fun p v h1 h2 => hZ ▸ written_att c A n x p v h1 h2 HS.out)
  have HRW : Hid (∀ v, CLies v c A → ALies v x p → Calls Try.prog 20 #[c.v A n, x.v p] v fun e w' => ∃ q, e = .returned (At.v Z q) ∧ ALies w' Z q ∧ Below v.heap.size v w') := Lib.hid (fun v h1 h2 => hZ ▸ rwritten_att c A n x p v h1 h2 HS.out HK.out)
  clear hX hN hY hM hZ hto
  go_wp2_with (first
  | (refine wpList_load_part rfl 25 (.tmp 6) rfl w.heap.size 0 rfl (Cr.c c A n).toList _ (S1.out.cb).all Try.underlying25 rfl cred_size (Cr.v c A n) rfl ?_)
  | (refine wpList_load_part rfl 31 (.tmp 7) rfl (w.heap.size + 1) 0 rfl (At.c x p).toList _ (S1.out.bt).bt0 Try.underlying31 rfl attr_size (At.v x p) rfl ?_))
  refine (racopy_calls x p w1 S1.out.al HS.out).mono ?_
  rintro e w2 ⟨o, rfl, hC, hb⟩
  have S := Lib.hid (S1.out.on hb)
  have hl := hC.lies
  clear hb hC S1
  obtain ⟨C, hC⟩ : ∃ C, C = At.c (x) o := ⟨_, rfl⟩
  have hone : C.all (·.oneCell') = true := by rw [hC]; exact c_one _ _
  have hsz : (Try.prog.info? 31).map (·.size) = some C.size := by rw [hC]; exact c_size _ _
  have hold : (zAt : Array Value).size = C.size := by rw [hC]; rfl
  have HZn := Lib.hid (heap_alloc_new w2 (.cells zAt 31))
  obtain ⟨U0, hU⟩ : ∃ Zz, Zz = (w2.alloc (.cells zAt 31)).setRow w2.heap.size C := ⟨_, rfl⟩
  obtain ⟨go, hg⟩ : ∃ Zz, Zz = w2.heap.size := ⟨_, rfl⟩
  have bu : Below w2.heap.size w2 U0 := by rw [hU]; exact put_below w2 C
  have Hgo : Hid (Hl U0 go (x) o) := Lib.hid (by rw [hU, hg, hC]; exact Hl.put hl)
  have HGgo : Hid (w2.heap.size ≤ go) := Lib.hid (by omega)
  have S := Lib.hid (S.out.on bu)
  
  have HUU := Lib.hid hU
  rw [show At.v (x) o = .agg C by rw [hC]]
  clear hC bu hU hl
  go_upto_region 4 with (refine wpList_store_rowTo rfl 31 (.tmp 13) (.tmp 27) rfl rfl w2.heap.size C rfl rfl 31 _ HZn.out hsz hold hone ?_; rw [← HUU.out])
  clear HUU HZn hsz hold hone
  rw [← hg]
  clear hg
  go_wp2_with (first
    | (refine wpList_load_part rfl 25 (.tmp 6) rfl w.heap.size 0 rfl (Cr.c c A n).toList _ (S.out.cb).all Try.underlying25 rfl cred_size (Cr.v c A n) rfl ?_)
    | (refine wpList_load_part rfl 31 (.tmp 13) rfl go 0 rfl (At.c x o).toList _ (Hgo.out.bt).bt0 Try.underlying31 rfl attr_size (At.v x o) rfl ?_))
  refine (HC1.out o U0 S.out.cl Hgo.out.li).mono ?_
  rintro e w3 ⟨rw1, rfl, how, hb⟩
  have S := Lib.hid (S.out.on hb)
  have Hgo := Lib.hid (Hgo.out.on hb)
  have hl := how.lies
  clear hb how
  obtain ⟨C, hC⟩ : ∃ C, C = At.c (X) rw1 := ⟨_, rfl⟩
  have hone : C.all (·.oneCell') = true := by rw [hC]; exact c_one _ _
  have hsz : (Try.prog.info? 31).map (·.size) = some C.size := by rw [hC]; exact c_size _ _
  have hold : (zAt : Array Value).size = C.size := by rw [hC]; rfl
  have HZn := Lib.hid (heap_alloc_new w3 (.cells zAt 31))
  obtain ⟨U1, hU⟩ : ∃ Zz, Zz = (w3.alloc (.cells zAt 31)).setRow w3.heap.size C := ⟨_, rfl⟩
  obtain ⟨g1, hg⟩ : ∃ Zz, Zz = w3.heap.size := ⟨_, rfl⟩
  have bu : Below w3.heap.size w3 U1 := by rw [hU]; exact put_below w3 C
  have Hg1 : Hid (Hl U1 g1 (X) rw1) := Lib.hid (by rw [hU, hg, hC]; exact Hl.put hl)
  have HGg1 : Hid (w3.heap.size ≤ g1) := Lib.hid (by omega)
  have S := Lib.hid (S.out.on bu)
  have Hgo := Lib.hid (Hgo.out.on bu)
  
  have HUU := Lib.hid hU
  rw [show At.v (X) rw1 = .agg C by rw [hC]]
  clear hC bu hU hl HC1
  go_upto_region 5 with (refine wpList_store_rowTo rfl 31 (.tmp 14) (.tmp 34) rfl rfl w3.heap.size C rfl rfl 31 _ HZn.out hsz hold hone ?_; rw [← HUU.out])
  clear HUU HZn hsz hold hone
  rw [← hg]
  clear hg
  go_wp2_with (first
    | (refine wpList_load_part rfl 25 (.tmp 6) rfl w.heap.size 0 rfl (Cr.c c A n).toList _ (S.out.cb).all Try.underlying25 rfl cred_size (Cr.v c A n) rfl ?_)
    | (refine wpList_load_part rfl 31 (.tmp 7) rfl (w.heap.size + 1) 0 rfl (At.c x p).toList _ (S.out.bt).bt0 Try.underlying31 rfl attr_size (At.v x p) rfl ?_))
  refine (HC2.out U1 S.out.cl S.out.al).mono ?_
  rintro e w4 ⟨rw2, rfl, how, hb⟩
  have S := Lib.hid (S.out.on hb)
  have Hgo := Lib.hid (Hgo.out.on hb)
  have Hg1 := Lib.hid (Hg1.out.on hb)
  have hl := how.lies
  clear hb how
  obtain ⟨C, hC⟩ : ∃ C, C = At.c (X) rw2 := ⟨_, rfl⟩
  have hone : C.all (·.oneCell') = true := by rw [hC]; exact c_one _ _
  have hsz : (Try.prog.info? 31).map (·.size) = some C.size := by rw [hC]; exact c_size _ _
  have hold : (zAt : Array Value).size = C.size := by rw [hC]; rfl
  have HZn := Lib.hid (heap_alloc_new w4 (.cells zAt 31))
  obtain ⟨U2, hU⟩ : ∃ Zz, Zz = (w4.alloc (.cells zAt 31)).setRow w4.heap.size C := ⟨_, rfl⟩
  obtain ⟨g2, hg⟩ : ∃ Zz, Zz = w4.heap.size := ⟨_, rfl⟩
  have bu : Below w4.heap.size w4 U2 := by rw [hU]; exact put_below w4 C
  have Hg2 : Hid (Hl U2 g2 (X) rw2) := Lib.hid (by rw [hU, hg, hC]; exact Hl.put hl)
  have HGg2 : Hid (w4.heap.size ≤ g2) := Lib.hid (by omega)
  have S := Lib.hid (S.out.on bu)
  have Hgo := Lib.hid (Hgo.out.on bu)
  have Hg1 := Lib.hid (Hg1.out.on bu)
  
  have HUU := Lib.hid hU
  rw [show At.v (X) rw2 = .agg C by rw [hC]]
  clear hC bu hU hl HC2
  go_upto_region 6 with (refine wpList_store_rowTo rfl 31 (.tmp 16) (.tmp 42) rfl rfl w4.heap.size C rfl rfl 31 _ HZn.out hsz hold hone ?_; rw [← HUU.out])
  clear HUU HZn hsz hold hone
  rw [← hg]
  clear hg
  go_wp2_with (first
    | (refine wpList_load_part rfl 25 (.tmp 6) rfl w.heap.size 0 rfl (Cr.c c A n).toList _ (S.out.cb).all Try.underlying25 rfl cred_size (Cr.v c A n) rfl ?_)
    | (refine wpList_load_part rfl 31 (.tmp 13) rfl go 0 rfl (At.c x o).toList _ (Hgo.out.bt).bt0 Try.underlying31 rfl attr_size (At.v x o) rfl ?_))
  refine (HC3.out o U2 S.out.cl Hgo.out.li).mono ?_
  rintro e w5 ⟨rw3, rfl, how, hb⟩
  have S := Lib.hid (S.out.on hb)
  have Hgo := Lib.hid (Hgo.out.on hb)
  have Hg1 := Lib.hid (Hg1.out.on hb)
  have Hg2 := Lib.hid (Hg2.out.on hb)
  have hl := how.lies
  clear hb how
  obtain ⟨C, hC⟩ : ∃ C, C = At.c (Y) rw3 := ⟨_, rfl⟩
  have hone : C.all (·.oneCell') = true := by rw [hC]; exact c_one _ _
  have hsz : (Try.prog.info? 31).map (·.size) = some C.size := by rw [hC]; exact c_size _ _
  have hold : (zAt : Array Value).size = C.size := by rw [hC]; rfl
  have HZn := Lib.hid (heap_alloc_new w5 (.cells zAt 31))
  obtain ⟨U3, hU⟩ : ∃ Zz, Zz = (w5.alloc (.cells zAt 31)).setRow w5.heap.size C := ⟨_, rfl⟩
  obtain ⟨g3, hg⟩ : ∃ Zz, Zz = w5.heap.size := ⟨_, rfl⟩
  have bu : Below w5.heap.size w5 U3 := by rw [hU]; exact put_below w5 C
  have Hg3 : Hid (Hl U3 g3 (Y) rw3) := Lib.hid (by rw [hU, hg, hC]; exact Hl.put hl)
  have HGg3 : Hid (w5.heap.size ≤ g3) := Lib.hid (by omega)
  have S := Lib.hid (S.out.on bu)
  have Hgo := Lib.hid (Hgo.out.on bu)
  have Hg1 := Lib.hid (Hg1.out.on bu)
  have Hg2 := Lib.hid (Hg2.out.on bu)
  
  have HUU := Lib.hid hU
  rw [show At.v (Y) rw3 = .agg C by rw [hC]]
  clear hC bu hU hl HC3
  go_upto_region 7 with (refine wpList_store_rowTo rfl 31 (.tmp 18) (.tmp 51) rfl rfl w5.heap.size C rfl rfl 31 _ HZn.out hsz hold hone ?_; rw [← HUU.out])
  clear HUU HZn hsz hold hone
  rw [← hg]
  clear hg
  go_wp2_with (first
    | (refine wpList_load_part rfl 25 (.tmp 6) rfl w.heap.size 0 rfl (Cr.c c A n).toList _ (S.out.cb).all Try.underlying25 rfl cred_size (Cr.v c A n) rfl ?_)
    | (refine wpList_load_part rfl 31 (.tmp 7) rfl (w.heap.size + 1) 0 rfl (At.c x p).toList _ (S.out.bt).bt0 Try.underlying31 rfl attr_size (At.v x p) rfl ?_))
  refine (HC4.out U3 S.out.cl S.out.al).mono ?_
  rintro e w6 ⟨rw4, rfl, how, hb⟩
  have S := Lib.hid (S.out.on hb)
  have Hgo := Lib.hid (Hgo.out.on hb)
  have Hg1 := Lib.hid (Hg1.out.on hb)
  have Hg2 := Lib.hid (Hg2.out.on hb)
  have Hg3 := Lib.hid (Hg3.out.on hb)
  have hl := how.lies
  clear hb how
  obtain ⟨C, hC⟩ : ∃ C, C = At.c (Y) rw4 := ⟨_, rfl⟩
  have hone : C.all (·.oneCell') = true := by rw [hC]; exact c_one _ _
  have hsz : (Try.prog.info? 31).map (·.size) = some C.size := by rw [hC]; exact c_size _ _
  have hold : (zAt : Array Value).size = C.size := by rw [hC]; rfl
  have HZn := Lib.hid (heap_alloc_new w6 (.cells zAt 31))
  obtain ⟨U4, hU⟩ : ∃ Zz, Zz = (w6.alloc (.cells zAt 31)).setRow w6.heap.size C := ⟨_, rfl⟩
  obtain ⟨g4, hg⟩ : ∃ Zz, Zz = w6.heap.size := ⟨_, rfl⟩
  have bu : Below w6.heap.size w6 U4 := by rw [hU]; exact put_below w6 C
  have Hg4 : Hid (Hl U4 g4 (Y) rw4) := Lib.hid (by rw [hU, hg, hC]; exact Hl.put hl)
  have HGg4 : Hid (w6.heap.size ≤ g4) := Lib.hid (by omega)
  have S := Lib.hid (S.out.on bu)
  have Hgo := Lib.hid (Hgo.out.on bu)
  have Hg1 := Lib.hid (Hg1.out.on bu)
  have Hg2 := Lib.hid (Hg2.out.on bu)
  have Hg3 := Lib.hid (Hg3.out.on bu)
  
  have HUU := Lib.hid hU
  rw [show At.v (Y) rw4 = .agg C by rw [hC]]
  clear hC bu hU hl HC4
  go_upto_region 8 with (refine wpList_store_rowTo rfl 31 (.tmp 20) (.tmp 60) rfl rfl w6.heap.size C rfl rfl 31 _ HZn.out hsz hold hone ?_; rw [← HUU.out])
  clear HUU HZn hsz hold hone
  rw [← hg]
  clear hg
  refine wp_region4 [.val (At.v (X) rw1), .val (.int .i64 N), .val (At.v (X) rw2), .val (.int .i64 N), .val (.bool true), .val (.bool true), .val (At.v (Y) rw3), .val (.int .i64 M), .val (At.v (Y) rw4), .val (.int .i64 M), .val (.bool true), .val (.bool true), .val (.bool true), .val (Cr.v c A n), .val (At.v (x) o), .val (.bool tt), .val (Cr.v c A n), .val (At.v (x) p), .val (.bool tt), .val (.bool true), .val (.bool true), .val (.bool true), .val (Cr.v c A n), .val (At.v (x) o), .att (Z), .val (Cr.v c A n), .val (At.v (x) p), .att (Z), .val (.bool true), .val (.bool true), .val (.bool true), .val (At.v (x) o), .val (At.v (x) p), .val (.bool true), .val (.bool true), .val (.bool true), .val (.bool true), .val (.bool true), .val (.bool true)] (by kernel_rfl) (by kernel_rfl) (by kernel_rfl) ?steps ?rest
  case steps =>
    refine ⟨?s0, ?s1, ?s2, ?s3, ?s4, ?s5, ?s6, ?s7, ?s8, ?s9, ?s10, ?s11, ?s12, ?s13, ?s14, ?s15, ?s16, ?s17, ?s18, ?s19, ?s20, ?s21, ?s22, ?s23, ?s24, ?s25, ?s26, ?s27, ?s28, ?s29, ?s30, ?s31, ?s32, ?s33, ?s34, ?s35, ?s36, ?s37, ?s38, trivial⟩
    case s0 =>
      exact st4_val _ rfl (.inl rfl) fun a u hb hA hd => run_loadT rfl g1 (X) rw1 (hA.eval 14 rfl) ((Hg1.out.bt).on hb)
    case s1 =>
      exact st4_val _ rfl (.inl rfl) fun a u hb hA hd => by
        have q0 := ev_of (show a.eval (.tmp 15) = .int .i64 N from hA.eval 15 rfl)
        unfold execOp
        simp [go_sem, q0]
    case s2 =>
      exact st4_val _ rfl (.inl rfl) fun a u hb hA hd => run_loadT rfl g2 (X) rw2 (hA.eval 16 rfl) ((Hg2.out.bt).on hb)
    case s3 =>
      exact st4_val _ rfl (.inl rfl) fun a u hb hA hd => by
        have q0 := ev_of (show a.eval (.tmp 17) = .int .i64 N from hA.eval 17 rfl)
        unfold execOp
        simp [go_sem, q0]
    case s4 =>
      refine st4_call _ rfl (.inl rfl) 15 fun a u hb hA hd => ?_
      have q0 := ev_of (show a.eval (.tmp 62) = At.v (X) rw1 from hd 0 62 rfl rfl _ rfl)
      have q1 := ev_of (show a.eval (.tmp 63) = .int .i64 N from hd 1 63 rfl rfl _ rfl)
      have q2 := ev_of (show a.eval (.tmp 64) = At.v (X) rw2 from hd 2 64 rfl rfl _ rfl)
      have q3 := ev_of (show a.eval (.tmp 65) = .int .i64 N from hd 3 65 rfl rfl _ rfl)
      refine ⟨#[At.v (X) rw1, .int .i64 N, At.v (X) rw2, .int .i64 N], ?_, (same_self X rw1 rw2 N u ((Hg1.out.li).below hb) ((Hg2.out.li).below hb) (asm_of HMX.out)).mono ?_⟩
      · unfold execOp
        simp [go_sem, q0, q1, q2, q3]
      · rintro e w' ⟨rfl, hb'⟩
        exact ⟨_, rfl, rfl, hb'⟩
    case s5 =>
      exact st4_move 4 66 rfl (.inl rfl) rfl rfl rfl
    case s6 =>
      exact st4_val _ rfl (.inr ⟨5, 67, true, rfl, rfl, rfl, rfl⟩) fun a u hb hA hd => run_loadT rfl g3 (Y) rw3 (hA.eval 18 rfl) ((Hg3.out.bt).on hb)
    case s7 =>
      exact st4_val _ rfl (.inr ⟨5, 67, true, rfl, rfl, rfl, rfl⟩) fun a u hb hA hd => by
        have q0 := ev_of (show a.eval (.tmp 19) = .int .i64 M from hA.eval 19 rfl)
        unfold execOp
        simp [go_sem, q0]
    case s8 =>
      exact st4_val _ rfl (.inr ⟨5, 67, true, rfl, rfl, rfl, rfl⟩) fun a u hb hA hd => run_loadT rfl g4 (Y) rw4 (hA.eval 20 rfl) ((Hg4.out.bt).on hb)
    case s9 =>
      exact st4_val _ rfl (.inr ⟨5, 67, true, rfl, rfl, rfl, rfl⟩) fun a u hb hA hd => by
        have q0 := ev_of (show a.eval (.tmp 21) = .int .i64 M from hA.eval 21 rfl)
        unfold execOp
        simp [go_sem, q0]
    case s10 =>
      refine st4_call _ rfl (.inr ⟨5, 67, true, rfl, rfl, rfl, rfl⟩) 15 fun a u hb hA hd => ?_
      have q0 := ev_of (show a.eval (.tmp 68) = At.v (Y) rw3 from hd 6 68 rfl rfl _ rfl)
      have q1 := ev_of (show a.eval (.tmp 69) = .int .i64 M from hd 7 69 rfl rfl _ rfl)
      have q2 := ev_of (show a.eval (.tmp 70) = At.v (Y) rw4 from hd 8 70 rfl rfl _ rfl)
      have q3 := ev_of (show a.eval (.tmp 71) = .int .i64 M from hd 9 71 rfl rfl _ rfl)
      refine ⟨#[At.v (Y) rw3, .int .i64 M, At.v (Y) rw4, .int .i64 M], ?_, (same_self Y rw3 rw4 M u ((Hg3.out.li).below hb) ((Hg4.out.li).below hb) (asm_of HMY.out)).mono ?_⟩
      · unfold execOp
        simp [go_sem, q0, q1, q2, q3]
      · rintro e w' ⟨rfl, hb'⟩
        exact ⟨_, rfl, rfl, hb'⟩
    case s11 =>
      exact st4_val _ rfl (.inl rfl) fun a u hb hA hd => by
        have q0 := hd 5 67 rfl rfl _ rfl
        have q1 := hd 10 72 rfl rfl _ rfl
        rw [run_pickT rfl q0]
        exact congrArg (fun z => Result.ok (Next.value z) u) q1
    case s12 =>
      exact st4_move 11 73 rfl (.inl rfl) rfl rfl rfl
    case s13 =>
      exact st4_val _ rfl (.inr ⟨12, 74, true, rfl, rfl, rfl, rfl⟩) fun a u hb hA hd => run_loadC rfl w.heap.size c A n (hA.eval 6 rfl) ((S.out.cb).on hb)
    case s14 =>
      exact st4_val _ rfl (.inr ⟨12, 74, true, rfl, rfl, rfl, rfl⟩) fun a u hb hA hd => run_loadT rfl go (x) o (hA.eval 13 rfl) ((Hgo.out.bt).on hb)
    case s15 =>
      refine st4_call _ rfl (.inr ⟨12, 74, true, rfl, rfl, rfl, rfl⟩) 16 fun a u hb hA hd => ?_
      have q0 := ev_of (show a.eval (.tmp 75) = Cr.v c A n from hd 13 75 rfl rfl _ rfl)
      have q1 := ev_of (show a.eval (.tmp 76) = At.v (x) o from hd 14 76 rfl rfl _ rfl)
      refine ⟨#[Cr.v c A n, At.v (x) o], ?_, (HOW.out o u ((S.out.cl).below hb) ((Hgo.out.li).below hb)).mono ?_⟩
      · unfold execOp
        simp [go_sem, q0, q1]
      · rintro e w' ⟨rfl, hb'⟩
        exact ⟨_, rfl, rfl, hb'⟩
    case s16 =>
      exact st4_val _ rfl (.inr ⟨12, 74, true, rfl, rfl, rfl, rfl⟩) fun a u hb hA hd => run_loadC rfl w.heap.size c A n (hA.eval 6 rfl) ((S.out.cb).on hb)
    case s17 =>
      exact st4_val _ rfl (.inr ⟨12, 74, true, rfl, rfl, rfl, rfl⟩) fun a u hb hA hd => run_loadT rfl (w.heap.size + 1) (x) p (hA.eval 7 rfl) ((S.out.bt).on hb)
    case s18 =>
      refine st4_call _ rfl (.inr ⟨12, 74, true, rfl, rfl, rfl, rfl⟩) 17 fun a u hb hA hd => ?_
      have q0 := ev_of (show a.eval (.tmp 78) = Cr.v c A n from hd 16 78 rfl rfl _ rfl)
      have q1 := ev_of (show a.eval (.tmp 79) = At.v (x) p from hd 17 79 rfl rfl _ rfl)
      refine ⟨#[Cr.v c A n, At.v (x) p], ?_, (HRO.out u ((S.out.cl).below hb) ((S.out.al).below hb)).mono ?_⟩
      · unfold execOp
        simp [go_sem, q0, q1]
      · rintro e w' ⟨rfl, hb'⟩
        exact ⟨_, rfl, rfl, hb'⟩
    case s19 =>
      exact st4_val _ rfl (.inr ⟨12, 74, true, rfl, rfl, rfl, rfl⟩) fun a u hb hA hd => by
        have q0 := ev_of (show a.eval (.tmp 77) = .bool tt from hd 15 77 rfl rfl _ rfl)
        have q1 := ev_of (show a.eval (.tmp 80) = .bool tt from hd 18 80 rfl rfl _ rfl)
        unfold execOp
        simp [go_sem, q0, q1]
    case s20 =>
      exact st4_val _ rfl (.inl rfl) fun a u hb hA hd => by
        have q0 := hd 12 74 rfl rfl _ rfl
        have q1 := hd 19 81 rfl rfl _ rfl
        rw [run_pickT rfl q0]
        exact congrArg (fun z => Result.ok (Next.value z) u) q1
    case s21 =>
      exact st4_move 20 82 rfl (.inl rfl) rfl rfl rfl
    case s22 =>
      exact st4_val _ rfl (.inr ⟨21, 83, true, rfl, rfl, rfl, rfl⟩) fun a u hb hA hd => run_loadC rfl w.heap.size c A n (hA.eval 6 rfl) ((S.out.cb).on hb)
    case s23 =>
      exact st4_val _ rfl (.inr ⟨21, 83, true, rfl, rfl, rfl, rfl⟩) fun a u hb hA hd => run_loadT rfl go (x) o (hA.eval 13 rfl) ((Hgo.out.bt).on hb)
    case s24 =>
      refine st4_call _ rfl (.inr ⟨21, 83, true, rfl, rfl, rfl, rfl⟩) 19 fun a u hb hA hd => ?_
      have q0 := ev_of (show a.eval (.tmp 84) = Cr.v c A n from hd 22 84 rfl rfl _ rfl)
      have q1 := ev_of (show a.eval (.tmp 85) = At.v (x) o from hd 23 85 rfl rfl _ rfl)
      refine ⟨#[Cr.v c A n, At.v (x) o], ?_, (HWR.out o u ((S.out.cl).below hb) ((Hgo.out.li).below hb)).mono ?_⟩
      · unfold execOp
        simp [go_sem, q0, q1]
      · rintro e w' ⟨r, rfl, hlr, hb'⟩
        exact ⟨_, rfl, ⟨r, rfl, hlr⟩, hb'⟩
    case s25 =>
      exact st4_val _ rfl (.inr ⟨21, 83, true, rfl, rfl, rfl, rfl⟩) fun a u hb hA hd => run_loadC rfl w.heap.size c A n (hA.eval 6 rfl) ((S.out.cb).on hb)
    case s26 =>
      exact st4_val _ rfl (.inr ⟨21, 83, true, rfl, rfl, rfl, rfl⟩) fun a u hb hA hd => run_loadT rfl (w.heap.size + 1) (x) p (hA.eval 7 rfl) ((S.out.bt).on hb)
    case s27 =>
      refine st4_call _ rfl (.inr ⟨21, 83, true, rfl, rfl, rfl, rfl⟩) 20 fun a u hb hA hd => ?_
      have q0 := ev_of (show a.eval (.tmp 87) = Cr.v c A n from hd 25 87 rfl rfl _ rfl)
      have q1 := ev_of (show a.eval (.tmp 88) = At.v (x) p from hd 26 88 rfl rfl _ rfl)
      refine ⟨#[Cr.v c A n, At.v (x) p], ?_, (HRW.out u ((S.out.cl).below hb) ((S.out.al).below hb)).mono ?_⟩
      · unfold execOp
        simp [go_sem, q0, q1]
      · rintro e w' ⟨r, rfl, hlr, hb'⟩
        exact ⟨_, rfl, ⟨r, rfl, hlr⟩, hb'⟩
    case s28 =>
      refine st4_call _ rfl (.inr ⟨21, 83, true, rfl, rfl, rfl, rfl⟩) 18 fun a u hb hA hd => ?_
      obtain ⟨r0, e0, l0⟩ := (show ∃ p, a.eval (.tmp 86) = At.v (Z) p ∧ ALies u (Z) p from hd 24 86 rfl rfl _ rfl)
      have q0 := ev_of e0
      obtain ⟨r1, e1, l1⟩ := (show ∃ p, a.eval (.tmp 89) = At.v (Z) p ∧ ALies u (Z) p from hd 27 89 rfl rfl _ rfl)
      have q1 := ev_of e1
      refine ⟨#[At.v (Z) r0, At.v (Z) r1], ?_, (rasame_self Z r0 r1 u (l0) (l1) (asm_of HMZ.out)).mono ?_⟩
      · unfold execOp
        simp [go_sem, q0, q1]
      · rintro e w' ⟨rfl, hb'⟩
        exact ⟨_, rfl, rfl, hb'⟩
    case s29 =>
      exact st4_val _ rfl (.inl rfl) fun a u hb hA hd => by
        have q0 := hd 21 83 rfl rfl _ rfl
        have q1 := hd 28 90 rfl rfl _ rfl
        rw [run_pickT rfl q0]
        exact congrArg (fun z => Result.ok (Next.value z) u) q1
    case s30 =>
      exact st4_move 29 91 rfl (.inl rfl) rfl rfl rfl
    case s31 =>
      exact st4_val _ rfl (.inr ⟨30, 92, true, rfl, rfl, rfl, rfl⟩) fun a u hb hA hd => run_loadT rfl go (x) o (hA.eval 13 rfl) ((Hgo.out.bt).on hb)
    case s32 =>
      exact st4_val _ rfl (.inr ⟨30, 92, true, rfl, rfl, rfl, rfl⟩) fun a u hb hA hd => run_loadT rfl (w.heap.size + 1) (x) p (hA.eval 7 rfl) ((S.out.bt).on hb)
    case s33 =>
      refine st4_call _ rfl (.inr ⟨30, 92, true, rfl, rfl, rfl, rfl⟩) 18 fun a u hb hA hd => ?_
      have q0 := ev_of (show a.eval (.tmp 93) = At.v (x) o from hd 31 93 rfl rfl _ rfl)
      have q1 := ev_of (show a.eval (.tmp 94) = At.v (x) p from hd 32 94 rfl rfl _ rfl)
      refine ⟨#[At.v (x) o, At.v (x) p], ?_, (rasame_self x o p u ((Hgo.out.li).below hb) ((S.out.al).below hb) HS.out).mono ?_⟩
      · unfold execOp
        simp [go_sem, q0, q1]
      · rintro e w' ⟨rfl, hb'⟩
        exact ⟨_, rfl, rfl, hb'⟩
    case s34 =>
      exact st4_val _ rfl (.inl rfl) fun a u hb hA hd => by
        have q0 := hd 30 92 rfl rfl _ rfl
        have q1 := hd 33 95 rfl rfl _ rfl
        rw [run_pickT rfl q0]
        exact congrArg (fun z => Result.ok (Next.value z) u) q1
    case s35 =>
      exact st4_move 34 96 rfl (.inl rfl) rfl rfl rfl
    case s36 =>
      refine st4_call _ rfl (.inr ⟨35, 97, true, rfl, rfl, rfl, rfl⟩) 9 fun a u hb hA hd => ?_
      refine ⟨#[], ?_, (alive_calls u).mono ?_⟩
      · unfold execOp
        simp [go_sem]
      · rintro e w' ⟨rfl, hb'⟩
        exact ⟨_, rfl, rfl, hb'⟩
    case s37 =>
      exact st4_val _ rfl (.inl rfl) fun a u hb hA hd => by
        have q0 := hd 35 97 rfl rfl _ rfl
        have q1 := hd 36 98 rfl rfl _ rfl
        rw [run_pickT rfl q0]
        exact congrArg (fun z => Result.ok (Next.value z) u) q1
    case s38 =>
      exact st4_assign 37 99 rfl (.inl rfl) rfl rfl rfl
  case rest =>
    intro vs u hb hR
    have ee : vs 38 = .bool true := hR 38 (by decide)
    have HBE9 := Lib.hid (S.out.on hb).be
    simp only [putsFrom, Act.put, List.setIfInBounds_toArray, List.set_cons_succ, List.set_cons_zero, ee]
    generalize vs 0 = z0
    generalize vs 1 = z1
    generalize vs 2 = z2
    generalize vs 3 = z3
    generalize vs 4 = z4
    generalize vs 5 = z5
    generalize vs 6 = z6
    generalize vs 7 = z7
    generalize vs 8 = z8
    generalize vs 9 = z9
    generalize vs 10 = z10
    generalize vs 11 = z11
    generalize vs 12 = z12
    generalize vs 13 = z13
    generalize vs 14 = z14
    generalize vs 15 = z15
    generalize vs 16 = z16
    generalize vs 17 = z17
    generalize vs 18 = z18
    generalize vs 19 = z19
    generalize vs 20 = z20
    generalize vs 21 = z21
    generalize vs 22 = z22
    generalize vs 23 = z23
    generalize vs 24 = z24
    generalize vs 25 = z25
    generalize vs 26 = z26
    generalize vs 27 = z27
    generalize vs 28 = z28
    generalize vs 29 = z29
    generalize vs 30 = z30
    generalize vs 31 = z31
    generalize vs 32 = z32
    generalize vs 33 = z33
    generalize vs 34 = z34
    generalize vs 35 = z35
    generalize vs 36 = z36
    generalize vs 37 = z37
    clear hR hb
    go_wp2_with (fail)
    go_ret
    exact ⟨rfl, HBE9.out⟩
end Go.Proofs.Ytdioafoikcfhhaa
