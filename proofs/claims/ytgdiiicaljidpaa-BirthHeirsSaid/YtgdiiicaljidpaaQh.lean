/- BirthLinks, BirthNew: whatever they are called with, they hand back true. -/
import Derived.Test.YtgdiiicaljidpaaQn
set_option linter.unusedSimpArgs false
set_option linter.unusedVariables false
set_option linter.unusedSimpArgs false
set_option linter.unusedVariables false
namespace Go.Proofs.Ytgdiiicaljidpaa
open Go.RowKit
theorem rasame_self (x : At) (p q : ALie) (w : World) (h1 : ALies w x p) (h2 : ALies w x q) (hs : ASm x) : Calls Try.prog 13 #[x.v p, x.v q] w fun e w' => e = .returned (.bool true) ∧ Below w.heap.size w w' := by
  have h := rasame_calls x x p q w h1 h2 hs hs
  rwa [asameB_self] at h
theorem mode_link (c : Cr) (x : At) : modeN (linkX c x) = 511 := by
  show (0 : Nat) % 8 * 512 + bitsN (ofA 511) = 511
  rw [bits_of]
set_option maxRecDepth 100000 in
set_option maxHeartbeats 16000000 in
theorem links_law (c : Cr) (A : Option Addr) (n : Nat) (x : At) (p : ALie) (u1 u2 m1 m2 : Nat) (w : World) (hc : CLies w c A) (h : ALies w x p) (hsx : ABg x) (hu1 : u1 < 65536) (hu2 : u2 < 65536) (hm1 : m1 < 65536) (hm2 : m2 < 65536) :
    Calls Try.prog 7 #[c.v A n, .int .u16 (u1 : Nat), .int .u16 (u2 : Nat), x.v p, .int .u16 (m1 : Nat), .int .u16 (m2 : Nat)] w fun e w' => e = .returned (.bool true) ∧ Below w.heap.size w w' := by
  obtain ⟨V, hV⟩ : ∃ V, V = (w.alloc (.cells (c.c A n) 25)).alloc (.cells (x.c p) 31) := ⟨_, rfl⟩
  have S0 : Hid (Pb w V c A n x p) := Lib.hid (by rw [hV]; exact Pb.start hc h)
  have HGX := Lib.hid hsx
  clear h hc hsx
  go_enter Try.func7, Try.ntmps7
  go_upto_region 1 with (fail)
  rw [← hV]
  clear hV
  go_wp2_with (first
  | (refine wpList_load_part rfl 25 (.tmp 6) rfl w.heap.size 0 rfl (Cr.c c A n).toList _ (S0.out.cb).all Try.underlying25 rfl cred_size (Cr.v c A n) rfl ?_)
  | (refine wpList_load_part rfl 31 (.tmp 9) rfl (w.heap.size + 1) 0 rfl (At.c x p).toList _ (S0.out.bt).bt0 Try.underlying31 rfl attr_size (At.v x p) rfl ?_))
  refine (glarge_calls c A n x p V S0.out.cl S0.out.al HGX.out).mono ?_
  rintro e w1 ⟨rfl, hb⟩
  have S := Lib.hid (S0.out.on hb)
  clear hb S0
  cases hlx : largeG c x
  case true =>
    clear hlx
    go_wp2_with (fail)
    refine (alive_calls _).mono ?_
    rintro e w99 ⟨rfl, hb⟩
    have HBZ := Lib.hid ((S.out.be).trans (hb.mono (S.out.be).size))
    clear hb
    go_wp2_with (fail)
    go_ret
    exact ⟨rfl, HBZ.out⟩
  case false =>
  have HS := Lib.hid (largeG_no hlx).1
  have HK := Lib.hid (largeG_no hlx).2.1
  clear hlx HGX
  obtain ⟨X, hX⟩ : ∃ X, newA c u1 x 3 m1 = X := ⟨_, rfl⟩
  obtain ⟨N, hN⟩ : ∃ N, newN c x 3 = N := ⟨_, rfl⟩
  have hX2 : newA c u2 x 3 m2 = X := hX
  have HMX : Hid (amayB X = true) := Lib.hid (by rw [← hX]; exact may_newA c u1 x 3 m1)
  have HC1 : Hid (∀ (p : ALie) v, CLies v c A → ALies v x p → Calls Try.prog 11 #[c.v A n, .int .u16 (u1 : Nat), x.v p, .int .u8 3, .int .u16 (m1 : Nat)] v fun e w' => ∃ q, e = .returned (.tuple #[At.v X q, .int .i64 N]) ∧ AOw w' X q ∧ Below v.heap.size v w') := Lib.hid (fun p v h1 h2 => by
    have h := new_calls c A n u1 x p 3 m1 v h1 h2 HS.out hu1 hm1
    rwa [hX, hN] at h)
  have HC2 : Hid (∀ (p : ALie) v, CLies v c A → ALies v x p → Calls Try.prog 11 #[c.v A n, .int .u16 (u2 : Nat), x.v p, .int .u8 3, .int .u16 (m2 : Nat)] v fun e w' => ∃ q, e = .returned (.tuple #[At.v X q, .int .i64 N]) ∧ AOw w' X q ∧ Below v.heap.size v w') := Lib.hid (fun p v h1 h2 => by
    have h := new_calls c A n u2 x p 3 m2 v h1 h2 HS.out hu2 hm2
    rwa [hX2, hN] at h)
  have HX := Lib.hid hX
  have HN := Lib.hid hN
  clear hX hX2 hN hu1 hu2 hm1 hm2
  go_wp2_with (first
    | (refine wpList_load_part rfl 25 (.tmp 6) rfl w.heap.size 0 rfl (Cr.c c A n).toList _ (S.out.cb).all Try.underlying25 rfl cred_size (Cr.v c A n) rfl ?_)
    | (refine wpList_load_part rfl 31 (.tmp 9) rfl (w.heap.size + 1) 0 rfl (At.c x p).toList _ (S.out.bt).bt0 Try.underlying31 rfl attr_size (At.v x p) rfl ?_))
  refine (HC1.out p w1 S.out.cl S.out.al).mono ?_
  rintro e w2 ⟨q1, rfl, how, hb⟩
  have S := Lib.hid (S.out.on hb)
  have hl := how.lies
  clear hb how
  obtain ⟨C, hC⟩ : ∃ C, C = At.c (X) q1 := ⟨_, rfl⟩
  have hone : C.all (·.oneCell') = true := by rw [hC]; exact c_one _ _
  have hsz : (Try.prog.info? 31).map (·.size) = some C.size := by rw [hC]; exact c_size _ _
  have hold : (zAt : Array Value).size = C.size := by rw [hC]; rfl
  have HZn := Lib.hid (heap_alloc_new w2 (.cells zAt 31))
  obtain ⟨U1, hU⟩ : ∃ Zz, Zz = (w2.alloc (.cells zAt 31)).setRow w2.heap.size C := ⟨_, rfl⟩
  obtain ⟨g1, hg⟩ : ∃ Zz, Zz = w2.heap.size := ⟨_, rfl⟩
  have hb : Below w2.heap.size w2 U1 := by rw [hU]; exact put_below w2 C
  have Hg1 : Hid (Hl U1 g1 (X) q1) := Lib.hid (by rw [hU, hg, hC]; exact Hl.put hl)
  have S := Lib.hid (S.out.on hb)
  have HUU := Lib.hid hU
  rw [show At.v (X) q1 = .agg C by rw [hC]]
  clear hC hb hU hl
  go_upto_region 4 with (refine wpList_store_rowTo rfl 31 (.tmp 13) (.tmp 27) rfl rfl w2.heap.size C rfl rfl 31 _ HZn.out hsz hold hone ?_; rw [← HUU.out])
  clear HUU HZn hsz hold hone
  rw [← hg]
  clear hg
  go_wp2_with (first
    | (refine wpList_load_part rfl 25 (.tmp 6) rfl w.heap.size 0 rfl (Cr.c c A n).toList _ (S.out.cb).all Try.underlying25 rfl cred_size (Cr.v c A n) rfl ?_)
    | (refine wpList_load_part rfl 31 (.tmp 9) rfl (w.heap.size + 1) 0 rfl (At.c x p).toList _ (S.out.bt).bt0 Try.underlying31 rfl attr_size (At.v x p) rfl ?_))
  refine (HC2.out p U1 S.out.cl S.out.al).mono ?_
  rintro e w3 ⟨q2, rfl, how, hb⟩
  have S := Lib.hid (S.out.on hb)
  have Hg1 := Lib.hid (Hg1.out.on hb)
  have hl := how.lies
  clear hb how
  obtain ⟨C, hC⟩ : ∃ C, C = At.c (X) q2 := ⟨_, rfl⟩
  have hone : C.all (·.oneCell') = true := by rw [hC]; exact c_one _ _
  have hsz : (Try.prog.info? 31).map (·.size) = some C.size := by rw [hC]; exact c_size _ _
  have hold : (zAt : Array Value).size = C.size := by rw [hC]; rfl
  have HZn := Lib.hid (heap_alloc_new w3 (.cells zAt 31))
  obtain ⟨U2, hU⟩ : ∃ Zz, Zz = (w3.alloc (.cells zAt 31)).setRow w3.heap.size C := ⟨_, rfl⟩
  obtain ⟨g2, hg⟩ : ∃ Zz, Zz = w3.heap.size := ⟨_, rfl⟩
  have hb : Below w3.heap.size w3 U2 := by rw [hU]; exact put_below w3 C
  have Hg2 : Hid (Hl U2 g2 (X) q2) := Lib.hid (by rw [hU, hg, hC]; exact Hl.put hl)
  have S := Lib.hid (S.out.on hb)
  have Hg1 := Lib.hid (Hg1.out.on hb)
  have HUU := Lib.hid hU
  rw [show At.v (X) q2 = .agg C by rw [hC]]
  clear hC hb hU hl
  go_upto_region 5 with (refine wpList_store_rowTo rfl 31 (.tmp 15) (.tmp 35) rfl rfl w3.heap.size C rfl rfl 31 _ HZn.out hsz hold hone ?_; rw [← HUU.out])
  clear HUU HZn hsz hold hone
  rw [← hg]
  clear hg
  have dN : (N != N) = false := by rw [bne_eq_false_iff_eq]
  go_wp2_with (first
  | (refine wpList_load_part rfl 31 (.tmp 13) rfl g1 0 rfl (At.c X q1).toList _ (Hg1.out.bt).bt0 Try.underlying31 rfl attr_size (At.v X q1) rfl ?_)
  | (refine wpList_load_part rfl 31 (.tmp 15) rfl g2 0 rfl (At.c X q2).toList _ (Hg2.out.bt).bt0 Try.underlying31 rfl attr_size (At.v X q2) rfl ?_))
  refine (rasame_self X q1 q2 U2 Hg1.out.li Hg2.out.li (asm_of HMX.out)).mono ?_
  rintro e w4 ⟨rfl, hb⟩
  have S := Lib.hid (S.out.on hb)
  have Hg1 := Lib.hid (Hg1.out.on hb)
  have Hg2 := Lib.hid (Hg2.out.on hb)
  clear hb dN HC1 HC2
  cases hv : begB c x 3
  case false =>
    obtain rfl : N = 622 := by rw [← HN.out]; exact newN_no hv
    clear hv HX HN
    go_wp2_with (fail)
    refine (alive_calls _).mono ?_
    rintro e w99 ⟨rfl, hb⟩
    have HBZ := Lib.hid ((S.out.be).trans (hb.mono (S.out.be).size))
    clear hb
    go_wp2_with (fail)
    go_ret
    exact ⟨rfl, HBZ.out⟩
  case true =>
    obtain rfl : N = 0 := by rw [← HN.out]; exact newN_yes hv
    obtain rfl : X = linkX c x := by rw [← HX.out]; exact new_yes hv u1 m1
    have hmo := rmode_calls (linkX c x) q1 w4 (nb_may (amay_parts HMX.out).2.1) (by show (0 : Nat) < 256; omega)
    rw [mode_link] at hmo
    have HMO := Lib.hid hmo
    clear hv HX HN hmo
    go_wp2_with (first
  | (refine wpList_load_part rfl 31 (.tmp 13) rfl g1 0 rfl (At.c (linkX c x) q1).toList _ (Hg1.out.bt).bt0 Try.underlying31 rfl attr_size (At.v (linkX c x) q1) rfl ?_))
    refine HMO.out.mono ?_
    rintro e w5 ⟨rfl, hb⟩
    have S := Lib.hid (S.out.on hb)
    have Hg1 := Lib.hid (Hg1.out.on hb)
    clear hb HMO
    have y8 : w5.cell? ⟨g1, 8, none⟩ = some (.bool false) := Hg1.out.bt.cell 8
    have y10 : w5.cell? ⟨g1, 10, none⟩ = some (.bool false) := Hg1.out.bt.c10
    have y1 : w5.cell? ⟨g1, 1, none⟩ = some (.int .u16 (c.ui : Nat)) := Hg1.out.bt.c1
    have y18 : w5.cell? ⟨g1, 18, none⟩ = some (.slice q1.X 0 q1.n) := Hg1.out.bt.c18
    have z0 := S.out.cb.c0
    generalize c.ui = cu at *
    go_wp2_with (fail)
    refine (alive_calls _).mono ?_
    rintro e w99 ⟨rfl, hb⟩
    have HBZ := Lib.hid ((S.out.be).trans (hb.mono (S.out.be).size))
    clear hb
    go_wp2_with (fail)
    go_ret
    exact ⟨rfl, HBZ.out⟩
set_option maxRecDepth 100000 in
set_option maxHeartbeats 16000000 in
theorem new_law (c : Cr) (A : Option Addr) (n : Nat) (x : At) (p : ALie) (u k m : Nat) (w : World) (hc : CLies w c A) (h : ALies w x p) (hsx : ABg x) (hu : u < 65536) (hm6 : m < 65536) :
    Calls Try.prog 3 #[c.v A n, .int .u16 (u : Nat), x.v p, .int .u8 (k : Nat), .int .u16 (m : Nat)] w fun e w' => e = .returned (.bool true) ∧ Below w.heap.size w w' := by
  obtain ⟨V, hV⟩ : ∃ V, V = (w.alloc (.cells (c.c A n) 25)).alloc (.cells (x.c p) 31) := ⟨_, rfl⟩
  have S0 : Hid (Pb w V c A n x p) := Lib.hid (by rw [hV]; exact Pb.start hc h)
  have HGX := Lib.hid hsx
  clear h hc hsx
  go_enter Try.func3, Try.ntmps3
  go_upto_region 1 with (fail)
  rw [← hV]
  clear hV
  go_wp2_with (first
  | (refine wpList_load_part rfl 25 (.tmp 5) rfl w.heap.size 0 rfl (Cr.c c A n).toList _ (S0.out.cb).all Try.underlying25 rfl cred_size (Cr.v c A n) rfl ?_)
  | (refine wpList_load_part rfl 31 (.tmp 7) rfl (w.heap.size + 1) 0 rfl (At.c x p).toList _ (S0.out.bt).bt0 Try.underlying31 rfl attr_size (At.v x p) rfl ?_))
  refine (glarge_calls c A n x p V S0.out.cl S0.out.al HGX.out).mono ?_
  rintro e w1 ⟨rfl, hb⟩
  have S := Lib.hid (S0.out.on hb)
  clear hb S0
  cases hlx : largeG c x
  case true =>
    clear hlx
    go_wp2_with (fail)
    refine (alive_calls _).mono ?_
    rintro e w99 ⟨rfl, hb⟩
    have HBZ := Lib.hid ((S.out.be).trans (hb.mono (S.out.be).size))
    clear hb
    go_wp2_with (fail)
    go_ret
    exact ⟨rfl, HBZ.out⟩
  case false =>
  have HS := Lib.hid (largeG_no hlx).1
  have HK := Lib.hid (largeG_no hlx).2.1
  clear hlx HGX
  obtain ⟨X, hX⟩ : ∃ X, newA c u x k m = X := ⟨_, rfl⟩
  obtain ⟨N, hN⟩ : ∃ N, newN c x k = N := ⟨_, rfl⟩
  have HMX : Hid (amayB X = true) := Lib.hid (by rw [← hX]; exact may_newA c u x k m)
  have HC1 : Hid (∀ (p : ALie) v, CLies v c A → ALies v x p → Calls Try.prog 11 #[c.v A n, .int .u16 (u : Nat), x.v p, .int .u8 (k : Nat), .int .u16 (m : Nat)] v fun e w' => ∃ q, e = .returned (.tuple #[At.v X q, .int .i64 N]) ∧ AOw w' X q ∧ Below v.heap.size v w') := Lib.hid (fun p v h1 h2 => by
    have h := new_calls c A n u x p k m v h1 h2 HS.out hu hm6
    rwa [hX, hN] at h)
  have HC2 : Hid (∀ (p : ALie) v, CLies v c A → ALies v x p → Calls Try.prog 12 #[c.v A n, .int .u16 (u : Nat), x.v p, .int .u8 (k : Nat), .int .u16 (m : Nat)] v fun e w' => ∃ q, e = .returned (.tuple #[At.v X q, .int .i64 N]) ∧ AOw w' X q ∧ Below v.heap.size v w') := Lib.hid (fun p v h1 h2 => by
    have h := rnew_calls c A n u x p k m v h1 h2 HS.out HK.out hu hm6
    rwa [hX, hN] at h)
  clear hX hN hu hm6
  go_wp2_with (first
  | (refine wpList_load_part rfl 25 (.tmp 5) rfl w.heap.size 0 rfl (Cr.c c A n).toList _ (S.out.cb).all Try.underlying25 rfl cred_size (Cr.v c A n) rfl ?_)
  | (refine wpList_load_part rfl 31 (.tmp 7) rfl (w.heap.size + 1) 0 rfl (At.c x p).toList _ (S.out.bt).bt0 Try.underlying31 rfl attr_size (At.v x p) rfl ?_))
  refine (racopy_calls x p w1 S.out.al HS.out).mono ?_
  rintro e w2 ⟨o, rfl, hC0, hb⟩
  have S := Lib.hid (S.out.on hb)
  have hl := hC0.lies
  clear hb hC0
  obtain ⟨C, hC⟩ : ∃ C, C = At.c (x) o := ⟨_, rfl⟩
  have hone : C.all (·.oneCell') = true := by rw [hC]; exact c_one _ _
  have hsz : (Try.prog.info? 31).map (·.size) = some C.size := by rw [hC]; exact c_size _ _
  have hold : (zAt : Array Value).size = C.size := by rw [hC]; rfl
  have HZn := Lib.hid (heap_alloc_new w2 (.cells zAt 31))
  obtain ⟨U0, hU⟩ : ∃ Zz, Zz = (w2.alloc (.cells zAt 31)).setRow w2.heap.size C := ⟨_, rfl⟩
  obtain ⟨go, hg⟩ : ∃ Zz, Zz = w2.heap.size := ⟨_, rfl⟩
  have hb : Below w2.heap.size w2 U0 := by rw [hU]; exact put_below w2 C
  have Hgo : Hid (Hl U0 go (x) o) := Lib.hid (by rw [hU, hg, hC]; exact Hl.put hl)
  have S := Lib.hid (S.out.on hb)
  have HUU := Lib.hid hU
  rw [show At.v (x) o = .agg C by rw [hC]]
  clear hC hb hU hl
  go_upto_region 4 with (refine wpList_store_rowTo rfl 31 (.tmp 11) (.tmp 21) rfl rfl w2.heap.size C rfl rfl 31 _ HZn.out hsz hold hone ?_; rw [← HUU.out])
  clear HUU HZn hsz hold hone
  rw [← hg]
  clear hg
  go_wp2_with (first
    | (refine wpList_load_part rfl 25 (.tmp 5) rfl w.heap.size 0 rfl (Cr.c c A n).toList _ (S.out.cb).all Try.underlying25 rfl cred_size (Cr.v c A n) rfl ?_)
    | (refine wpList_load_part rfl 31 (.tmp 7) rfl (w.heap.size + 1) 0 rfl (At.c x p).toList _ (S.out.bt).bt0 Try.underlying31 rfl attr_size (At.v x p) rfl ?_)
    | (refine wpList_load_part rfl 31 (.tmp 11) rfl go 0 rfl (At.c x o).toList _ (Hgo.out.bt).bt0 Try.underlying31 rfl attr_size (At.v x o) rfl ?_))
  refine (HC1.out o U0 S.out.cl Hgo.out.li).mono ?_
  rintro e w3 ⟨q1, rfl, how, hb⟩
  have S := Lib.hid (S.out.on hb)
  have Hgo := Lib.hid (Hgo.out.on hb)
  have hl := how.lies
  clear hb how
  obtain ⟨C, hC⟩ : ∃ C, C = At.c (X) q1 := ⟨_, rfl⟩
  have hone : C.all (·.oneCell') = true := by rw [hC]; exact c_one _ _
  have hsz : (Try.prog.info? 31).map (·.size) = some C.size := by rw [hC]; exact c_size _ _
  have hold : (zAt : Array Value).size = C.size := by rw [hC]; rfl
  have HZn := Lib.hid (heap_alloc_new w3 (.cells zAt 31))
  obtain ⟨U1, hU⟩ : ∃ Zz, Zz = (w3.alloc (.cells zAt 31)).setRow w3.heap.size C := ⟨_, rfl⟩
  obtain ⟨g1, hg⟩ : ∃ Zz, Zz = w3.heap.size := ⟨_, rfl⟩
  have hb : Below w3.heap.size w3 U1 := by rw [hU]; exact put_below w3 C
  have Hg1 : Hid (Hl U1 g1 (X) q1) := Lib.hid (by rw [hU, hg, hC]; exact Hl.put hl)
  have S := Lib.hid (S.out.on hb)
  have Hgo := Lib.hid (Hgo.out.on hb)
  have HUU := Lib.hid hU
  rw [show At.v (X) q1 = .agg C by rw [hC]]
  clear hC hb hU hl
  go_upto_region 5 with (refine wpList_store_rowTo rfl 31 (.tmp 12) (.tmp 29) rfl rfl w3.heap.size C rfl rfl 31 _ HZn.out hsz hold hone ?_; rw [← HUU.out])
  clear HUU HZn hsz hold hone
  rw [← hg]
  clear hg
  go_wp2_with (first
    | (refine wpList_load_part rfl 25 (.tmp 5) rfl w.heap.size 0 rfl (Cr.c c A n).toList _ (S.out.cb).all Try.underlying25 rfl cred_size (Cr.v c A n) rfl ?_)
    | (refine wpList_load_part rfl 31 (.tmp 7) rfl (w.heap.size + 1) 0 rfl (At.c x p).toList _ (S.out.bt).bt0 Try.underlying31 rfl attr_size (At.v x p) rfl ?_))
  refine (HC2.out p U1 S.out.cl S.out.al).mono ?_
  rintro e w4 ⟨q2, rfl, how, hb⟩
  have S := Lib.hid (S.out.on hb)
  have Hgo := Lib.hid (Hgo.out.on hb)
  have Hg1 := Lib.hid (Hg1.out.on hb)
  have hl := how.lies
  clear hb how
  obtain ⟨C, hC⟩ : ∃ C, C = At.c (X) q2 := ⟨_, rfl⟩
  have hone : C.all (·.oneCell') = true := by rw [hC]; exact c_one _ _
  have hsz : (Try.prog.info? 31).map (·.size) = some C.size := by rw [hC]; exact c_size _ _
  have hold : (zAt : Array Value).size = C.size := by rw [hC]; rfl
  have HZn := Lib.hid (heap_alloc_new w4 (.cells zAt 31))
  obtain ⟨U2, hU⟩ : ∃ Zz, Zz = (w4.alloc (.cells zAt 31)).setRow w4.heap.size C := ⟨_, rfl⟩
  obtain ⟨g2, hg⟩ : ∃ Zz, Zz = w4.heap.size := ⟨_, rfl⟩
  have hb : Below w4.heap.size w4 U2 := by rw [hU]; exact put_below w4 C
  have Hg2 : Hid (Hl U2 g2 (X) q2) := Lib.hid (by rw [hU, hg, hC]; exact Hl.put hl)
  have S := Lib.hid (S.out.on hb)
  have Hgo := Lib.hid (Hgo.out.on hb)
  have Hg1 := Lib.hid (Hg1.out.on hb)
  have HUU := Lib.hid hU
  rw [show At.v (X) q2 = .agg C by rw [hC]]
  clear hC hb hU hl
  go_upto_region 6 with (refine wpList_store_rowTo rfl 31 (.tmp 14) (.tmp 38) rfl rfl w4.heap.size C rfl rfl 31 _ HZn.out hsz hold hone ?_; rw [← HUU.out])
  clear HUU HZn hsz hold hone
  rw [← hg]
  clear hg
  have dN : (N == N) = true := beq_self_eq_true _
  go_wp2_with (first
  | (refine wpList_load_part rfl 31 (.tmp 12) rfl g1 0 rfl (At.c X q1).toList _ (Hg1.out.bt).bt0 Try.underlying31 rfl attr_size (At.v X q1) rfl ?_)
  | (refine wpList_load_part rfl 31 (.tmp 14) rfl g2 0 rfl (At.c X q2).toList _ (Hg2.out.bt).bt0 Try.underlying31 rfl attr_size (At.v X q2) rfl ?_))
  refine (rasame_self X q1 q2 U2 Hg1.out.li Hg2.out.li (asm_of HMX.out)).mono ?_
  rintro e w5 ⟨rfl, hb⟩
  have S := Lib.hid (S.out.on hb)
  have Hgo := Lib.hid (Hgo.out.on hb)
  clear hb
  go_wp2_with (first
  | (refine wpList_load_part rfl 31 (.tmp 11) rfl go 0 rfl (At.c x o).toList _ (Hgo.out.bt).bt0 Try.underlying31 rfl attr_size (At.v x o) rfl ?_)
  | (refine wpList_load_part rfl 31 (.tmp 7) rfl (w.heap.size + 1) 0 rfl (At.c x p).toList _ (S.out.bt).bt0 Try.underlying31 rfl attr_size (At.v x p) rfl ?_))
  refine (rasame_self x o p w5 Hgo.out.li S.out.al HS.out).mono ?_
  rintro e w6 ⟨rfl, hb⟩
  have S := Lib.hid (S.out.on hb)
  clear hb
  go_wp2_with (fail)
  refine (alive_calls _).mono ?_
  rintro e w99 ⟨rfl, hb⟩
  have HBZ := Lib.hid ((S.out.be).trans (hb.mono (S.out.be).size))
  clear hb
  go_wp2_with (fail)
  go_ret
  exact ⟨rfl, HBZ.out⟩
end Go.Proofs.Ytgdiiicaljidpaa
