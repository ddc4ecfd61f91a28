/- The chapter's examples: they hold. -/
import Derived.Test.YtdioafoikcfhhaaPc
set_option linter.unusedSimpArgs false
set_option linter.unusedVariables false
set_option linter.unusedSimpArgs false
set_option linter.unusedVariables false
namespace Go.Proofs.Ytdioafoikcfhhaa
open Go.RowKit
theorem clies_nil (w : World) (u g : Nat) (h : Bool) : CLies w ⟨u, g, [], h⟩ none := ⟨Cel.nil _ _, by simp⟩
theorem alies_nil (w : World) (b u g o r t : Nat) (h : Bool) (d : Ac) (hd : d.us = []) (hg : d.gs = []) : ALies w ⟨b, u, g, ⟨o, r, t, [], [], false, 0⟩, h, d, []⟩ alieZ :=
  ⟨⟨Cel.nil _ _, Cel.nil _ _⟩, ⟨by show Cel w none (nv d.us); rw [hd]; exact Cel.nil _ _, by show Cel w none (nv d.gs); rw [hg]; exact Cel.nil _ _⟩, Cel.nil _ _⟩
abbrev zCr : Array Value := #[.int .u16 0, .int .u16 0, .slice none 0 0, .bool false]
abbrev xF : Cr := ⟨5, 1, [], false⟩
abbrev xA : At := ⟨0, 6, 0, acZ, false, acZ, []⟩
abbrev xB : At := ⟨0, 5, 2, acZ, false, acZ, []⟩
abbrev xC : At := ⟨4, 5, 2, ⟨7, 1, 1, [], [], false, 0⟩, false, acZ, []⟩
abbrev xD : At := ⟨1, 5, 0, acZ, false, acZ, []⟩
abbrev xE : At := ⟨0, 5, 0, acZ, false, acZ, []⟩
abbrev xL : Ac := ⟨7, 0, 0, [], [], false, 0⟩
theorem sm_x (b u g : Nat) (a : Ac) (h : Bool) (ha : a.us = []) (hg : a.gs = []) : ASm ⟨b, u, g, a, h, acZ, []⟩ := ⟨⟨by show a.us.length ≤ _; rw [ha]; decide, by show a.gs.length ≤ _; rw [hg]; decide⟩, ⟨by show (0 : Nat) ≤ _; omega, by show (0 : Nat) ≤ _; omega⟩, by show (0 : Nat) ≤ _; omega⟩
set_option maxRecDepth 100000 in
set_option maxHeartbeats 16000000 in
theorem alive_calls (w : World) : Calls Try.prog 9 #[] w fun e w' => e = .returned (.bool true) ∧ Below w.heap.size w w' := by
  obtain ⟨F, hF⟩ : ∃ F, F = xF := ⟨_, rfl⟩
  obtain ⟨A1, hA1⟩ : ∃ F, F = xA := ⟨_, rfl⟩
  obtain ⟨A2, hA2⟩ : ∃ F, F = xB := ⟨_, rfl⟩
  obtain ⟨A3, hA3⟩ : ∃ F, F = xC := ⟨_, rfl⟩
  obtain ⟨D, hD⟩ : ∃ F, F = xD := ⟨_, rfl⟩
  obtain ⟨A4, hA4⟩ : ∃ F, F = xE := ⟨_, rfl⟩
  obtain ⟨L, hL⟩ : ∃ F, F = xL := ⟨_, rfl⟩
  obtain ⟨R2, hR2⟩ : ∃ R, chmA xF xB 1 1517 = R := ⟨_, rfl⟩
  obtain ⟨R3, hR3⟩ : ∃ R, choA xF xC 1 (-1) 1 = R := ⟨_, rfl⟩
  obtain ⟨R4, hR4⟩ : ∃ R, aclA xF xE 2 2 xL = R := ⟨_, rfl⟩
  have c1 : Hid (∀ W : World, Calls Try.prog 11 #[F.v none 0, A1.v alieZ, .int .u8 1, .int .u16 493] W fun e w' => ∃ q, e = .returned (.tuple #[At.v atZ q, .int .i64 601]) ∧ Below W.heap.size W w') := Lib.hid (fun W => by
    rw [hF, hA1]
    have e1 : chmA xF xA 1 493 = atZ := by rfl
    have e2 : chmN xF xA = 601 := by decide +kernel
    have h := chmodo_calls xF none 0 xA alieZ 1 493 W (clies_nil _ _ _ _) (alies_nil W 0 6 0 0 0 0 false acZ rfl rfl) (sm_x _ _ _ _ _ rfl rfl) (by decide)
    rw [e1, e2] at h
    exact h.mono fun e w' ⟨q, h1, _, h3⟩ => ⟨q, h1, h3⟩)
  have c2 : Hid (∀ W : World, Calls Try.prog 11 #[F.v none 0, A2.v alieZ, .int .u8 1, .int .u16 1517] W fun e w' => ∃ q, e = .returned (.tuple #[At.v R2 q, .int .i64 0]) ∧ Below W.heap.size W w') := Lib.hid (fun W => by
    rw [hF, hA2]
    have e2 : chmN xF xB = 0 := by decide +kernel
    have h := chmodo_calls xF none 0 xB alieZ 1 1517 W (clies_nil _ _ _ _) (alies_nil W 0 5 2 0 0 0 false acZ rfl rfl) (sm_x _ _ _ _ _ rfl rfl) (by decide)
    rw [hR2, e2] at h
    exact h.mono fun e w' ⟨q, h1, _, h3⟩ => ⟨q, h1, h3⟩)
  have c3 : Hid (∀ W : World, Calls Try.prog 13 #[F.v none 0, A3.v alieZ, .int .u8 1, .int .i64 (-1), .int .i64 1] W fun e w' => ∃ q, e = .returned (.tuple #[At.v R3 q, .int .i64 0]) ∧ Below W.heap.size W w') := Lib.hid (fun W => by
    rw [hF, hA3]
    have e2 : choN xF xC (-1) 1 = 0 := by decide +kernel
    have h := chowno_calls xF none 0 xC alieZ 1 (-1) 1 W (clies_nil _ _ _ _) (alies_nil W 4 5 2 7 1 1 false acZ rfl rfl) (sm_x _ _ _ _ _ rfl rfl)
    rw [hR3, e2] at h
    exact h.mono fun e w' ⟨q, h1, _, h3⟩ => ⟨q, h1, h3⟩)
  have c4 : Hid (∀ W : World, Calls Try.prog 23 #[F.v none 0, A4.v alieZ, .int .u8 2, .int .u8 2, L.v lieZ] W fun e w' => ∃ q, e = .returned (.tuple #[At.v R4 q, .int .i64 0]) ∧ Below W.heap.size W w') := Lib.hid (fun W => by
    rw [hF, hA4, hL]
    have e2 : aclN xF xE 2 2 xL = 0 := by decide +kernel
    have h := setaclo_calls xF none 0 xE alieZ 2 2 xL lieZ W (clies_nil _ _ _ _) (alies_nil W 0 5 0 0 0 0 false acZ rfl rfl) (sm_x _ _ _ _ _ rfl rfl) ⟨Cel.nil _ _, Cel.nil _ _⟩ ⟨by decide, by decide⟩
    rw [hR4, e2] at h
    exact h.mono fun e w' ⟨q, h1, _, h3⟩ => ⟨q, h1, h3⟩)
  have c5 : Hid (∀ (p : ALie) (W : World), Calls Try.prog 34 #[R2.v p] W fun e w' => e = .returned (.int .u16 493) ∧ Below W.heap.size W w') := Lib.hid (fun p W => by
    have e1 : modeN (chmA xF xB 1 1517) = 493 := by decide +kernel
    have n1 : amayB (chmA xF xB 1 1517) = true := by decide +kernel
    rw [hR2] at e1 n1
    have h := rmode_calls R2 p W (nb_may (amay_parts n1).2.1) (by have := may8 n1; omega)
    rw [e1] at h
    exact h)
  have c6 : Hid (∀ (p : ALie) (W : World), Calls Try.prog 34 #[R3.v p] W fun e w' => e = .returned (.int .u16 457) ∧ Below W.heap.size W w') := Lib.hid (fun p W => by
    have e1 : modeN (choA xF xC 1 (-1) 1) = 457 := by decide +kernel
    have n1 : amayB (choA xF xC 1 (-1) 1) = true := by decide +kernel
    rw [hR3] at e1 n1
    have h := rmode_calls R3 p W (nb_may (amay_parts n1).2.1) (by have := may8 n1; omega)
    rw [e1] at h
    exact h)
  have g3 : R3.gi = 1 := by rw [← hR3]; decide +kernel
  have g4 : R4.hd = true := by rw [← hR4]; decide +kernel
  have g5 : R4.df.ow = 7 := by rw [← hR4]; decide +kernel
  have c7 : Hid (∀ W : World, Calls Try.prog 25 #[.agg #[.int .u16 7, .int .u16 0, .slice none 0 0, .bool false], D.v alieZ, .agg #[.int .u8 0, .int .u16 6, .int .u16 0, .int .u8 0, .int .u8 0, .int .u8 0, .slice none 0 0, .slice none 0 0, .bool false, .int .u8 0, .bool false, .int .u8 0, .int .u8 0, .int .u8 0, .slice none 0 0, .slice none 0 0, .bool false, .int .u8 0, .slice none 0 0]] W fun e w' => e = .returned (.bool false) ∧ Below W.heap.size W w') := Lib.hid (fun W => by
    rw [hD]
    have e1 : remB ⟨7, 0, [], false⟩ xD xA = false := by decide +kernel
    have h := removes_calls ⟨7, 0, [], false⟩ none 0 xD alieZ xA alieZ W (clies_nil _ _ _ _) (alies_nil W 1 5 0 0 0 0 false acZ rfl rfl) (alies_nil W 0 6 0 0 0 0 false acZ rfl rfl) (sm_x _ _ _ _ _ rfl rfl) (sm_x _ _ _ _ _ rfl rfl)
    rw [e1] at h
    exact h)
  have c8 : Hid (∀ W : World, Calls Try.prog 25 #[F.v none 0, D.v alieZ, .agg #[.int .u8 0, .int .u16 6, .int .u16 0, .int .u8 0, .int .u8 0, .int .u8 0, .slice none 0 0, .slice none 0 0, .bool false, .int .u8 0, .bool false, .int .u8 0, .int .u8 0, .int .u8 0, .slice none 0 0, .slice none 0 0, .bool false, .int .u8 0, .slice none 0 0]] W fun e w' => e = .returned (.bool true) ∧ Below W.heap.size W w') := Lib.hid (fun W => by
    rw [hD, hF]
    have e1 : remB xF xD xA = true := by decide +kernel
    have h := removes_calls xF none 0 xD alieZ xA alieZ W (clies_nil _ _ _ _) (alies_nil W 1 5 0 0 0 0 false acZ rfl rfl) (alies_nil W 0 6 0 0 0 0 false acZ rfl rfl) (sm_x _ _ _ _ _ rfl rfl) (sm_x _ _ _ _ _ rfl rfl)
    rw [e1] at h
    exact h)
  have c9 : Hid (∀ W : World, Calls Try.prog 16 #[F.v none 0, D.v alieZ] W fun e w' => e = .returned (.bool true) ∧ Below W.heap.size W w') := Lib.hid (fun W => by
    rw [hD, hF]
    have e1 : ownB xF xD = true := by decide +kernel
    have h := ownso_calls xF none 0 xD alieZ W (clies_nil _ _ _ _) (alies_nil W 1 5 0 0 0 0 false acZ rfl rfl) (sm_x _ _ _ _ _ rfl rfl)
    rw [e1] at h
    exact h)
  have c10 : Hid (∀ W : World, Calls Try.prog 16 #[.agg #[.int .u16 6, .int .u16 0, .slice none 0 0, .bool false], D.v alieZ] W fun e w' => e = .returned (.bool false) ∧ Below W.heap.size W w') := Lib.hid (fun W => by
    rw [hD]
    have e1 : ownB ⟨6, 0, [], false⟩ xD = false := by decide +kernel
    have h := ownso_calls ⟨6, 0, [], false⟩ none 0 xD alieZ W (clies_nil _ _ _ _) (alies_nil W 1 5 0 0 0 0 false acZ rfl rfl) (sm_x _ _ _ _ _ rfl rfl)
    rw [e1] at h
    exact h)
  have bF : Hid (Cr.c F none 0 = Cr.c xF none 0) := Lib.hid (by rw [hF])
  have bA1 : Hid (At.c A1 alieZ = At.c xA alieZ) := Lib.hid (by rw [hA1])
  have bA2 : Hid (At.c A2 alieZ = At.c xB alieZ) := Lib.hid (by rw [hA2])
  have bA3 : Hid (At.c A3 alieZ = At.c xC alieZ) := Lib.hid (by rw [hA3])
  have bA4 : Hid (At.c A4 alieZ = At.c xE alieZ) := Lib.hid (by rw [hA4])
  have bD : Hid (At.c D alieZ = At.c xD alieZ) := Lib.hid (by rw [hD])
  have bL : Hid (Ac.c L lieZ = Ac.c xL lieZ) := Lib.hid (by rw [hL])
  clear hF hA1 hA2 hA3 hA4 hD hL hR2 hR3 hR4
  have HB := Lib.hid (Below.refl w.heap.size w)
  go_enter Try.func9, Try.ntmps9
  go_upto_region 1 with (fail)
  obtain ⟨C, hC⟩ : ∃ C, C = Cr.c F none 0 := ⟨_, rfl⟩
  have hone : C.all (·.oneCell') = true := by rw [hC, ← Array.all_toList]; rfl
  have hsz : (Try.prog.info? 25).map (·.size) = some C.size := by rw [hC]; exact cred_size
  have hold : (zCr : Array Value).size = C.size := by rw [hC]; rfl
  have HZn := Lib.hid (heap_alloc_new w (.cells zCr 25))
  obtain ⟨V1, hU⟩ : ∃ Zz, Zz = (w.alloc (.cells zCr 25)).setRow w.heap.size C := ⟨_, rfl⟩
  obtain ⟨f, hg⟩ : ∃ Zz, Zz = w.heap.size := ⟨_, rfl⟩
  have bu : Below w.heap.size w V1 := by rw [hU]; exact below_setRow ((Below.refl _ _).alloc (Nat.le_refl _) _) (Nat.le_refl _) _
  have Hf : Hid (Cb V1 f F none 0) := Lib.hid (by rw [hU, hg, hC]; exact setRow_heap _ _ _ _ _ _ (heap_alloc_new w _))
  have HB := Lib.hid (HB.out.trans (bu.mono HB.out.size))
  have HZU := Lib.hid hU
  have bC : Hid (C = Cr.c xF none 0) := Lib.hid (by rw [hC, bF.out])
  clear hC bu hU
  go_upto_region 2 with (first
  | (refine wpList_store_rowTo rfl 25 (.tmp 1) (.tmp 11) rfl rfl w.heap.size C rfl rfl 25 _ HZn.out hsz hold hone ?_; rw [← HZU.out])
  | (refine wpList_buildTo rfl 25 _ rfl (some 11) rfl C (by rw [bC.out]; kernel_rfl) ?_))
  clear HZU HZn hsz hold hone bC
  rw [← hg]
  clear hg
  go_wp2_with (first
  | (refine wpList_load_part rfl 25 (.tmp 1) rfl f 0 rfl (Cr.c F none 0).toList _ (Hf.out).all Try.underlying25 rfl cred_size (Cr.v F none 0) rfl ?_)
  | (refine wpList_buildTo rfl 31 _ rfl (some 14) rfl (At.c A1 alieZ) (by rw [bA1.out]; kernel_rfl) ?_))
  refine (c1.out V1).mono ?_
  rintro e w2 ⟨q1, rfl, hb⟩
  have Hf := Lib.hid (Hf.out.on hb)
  have HB := Lib.hid (HB.out.trans (hb.mono HB.out.size))
  clear hb c1
  obtain ⟨C, hC⟩ : ∃ C, C = At.c atZ q1 := ⟨_, rfl⟩
  have hone : C.all (·.oneCell') = true := by rw [hC]; exact c_one _ _
  have hsz : (Try.prog.info? 31).map (·.size) = some C.size := by rw [hC]; exact c_size _ _
  have hold : (zAt : Array Value).size = C.size := by rw [hC]; rfl
  have HZn := Lib.hid (heap_alloc_new w2 (.cells zAt 31))
  obtain ⟨V2, hU⟩ : ∃ Zz, Zz = (World.alloc w2 (.cells zAt 31)).setRow (World.heap w2).size C := ⟨_, rfl⟩
  obtain ⟨ga, hg⟩ : ∃ Zz, Zz = (World.heap w2).size := ⟨_, rfl⟩
  have bu : Below (World.heap w2).size w2 V2 := by rw [hU]; exact put_below w2 C
  have Hga : Hid (Bt V2 ga atZ q1) := Lib.hid (by rw [hU, hg, hC]; exact setRow_heap _ _ _ _ _ _ (heap_alloc_new w2 _))
  have Hf := Lib.hid (Hf.out.on bu)
  have HB := Lib.hid (HB.out.trans (bu.mono HB.out.size))
  have HZU := Lib.hid hU
  rw [show At.v atZ q1 = .agg C by rw [hC]]
  clear hC bu hU
  go_upto_region 3 with (first
    | (refine wpList_store_rowTo rfl 31 (.tmp 2) (.tmp 16) rfl rfl (World.heap w2).size C rfl rfl 31 _ HZn.out hsz hold hone ?_; rw [← HZU.out]))
  clear HZU HZn hsz hold hone
  rw [← hg]
  clear hg
  go_wp2_with (first
  | (refine wpList_load_part rfl 25 (.tmp 1) rfl f 0 rfl (Cr.c F none 0).toList _ (Hf.out).all Try.underlying25 rfl cred_size (Cr.v F none 0) rfl ?_)
  | (refine wpList_buildTo rfl 31 _ rfl (some 20) rfl (At.c A2 alieZ) (by rw [bA2.out]; kernel_rfl) ?_))
  refine (c2.out V2).mono ?_
  rintro e w3 ⟨q2, rfl, hb⟩
  have Hf := Lib.hid (Hf.out.on hb)
  have HB := Lib.hid (HB.out.trans (hb.mono HB.out.size))
  have Hga := Lib.hid (Hga.out.on hb)
  clear hb c2
  obtain ⟨C, hC⟩ : ∃ C, C = At.c R2 q2 := ⟨_, rfl⟩
  have hone : C.all (·.oneCell') = true := by rw [hC]; exact c_one _ _
  have hsz : (Try.prog.info? 31).map (·.size) = some C.size := by rw [hC]; exact c_size _ _
  have hold : (zAt : Array Value).size = C.size := by rw [hC]; rfl
  have HZn := Lib.hid (heap_alloc_new w3 (.cells zAt 31))
  obtain ⟨V3, hU⟩ : ∃ Zz, Zz = (World.alloc w3 (.cells zAt 31)).setRow (World.heap w3).size C := ⟨_, rfl⟩
  obtain ⟨gb, hg⟩ : ∃ Zz, Zz = (World.heap w3).size := ⟨_, rfl⟩
  have bu : Below (World.heap w3).size w3 V3 := by rw [hU]; exact put_below w3 C
  have Hgb : Hid (Bt V3 gb R2 q2) := Lib.hid (by rw [hU, hg, hC]; exact setRow_heap _ _ _ _ _ _ (heap_alloc_new w3 _))
  have Hf := Lib.hid (Hf.out.on bu)
  have HB := Lib.hid (HB.out.trans (bu.mono HB.out.size))
  have Hga := Lib.hid (Hga.out.on bu)
  have HZU := Lib.hid hU
  rw [show At.v R2 q2 = .agg C by rw [hC]]
  clear hC bu hU
  go_upto_region 4 with (first
    | (refine wpList_store_rowTo rfl 31 (.tmp 4) (.tmp 22) rfl rfl (World.heap w3).size C rfl rfl 31 _ HZn.out hsz hold hone ?_; rw [← HZU.out]))
  clear HZU HZn hsz hold hone
  rw [← hg]
  clear hg
  go_wp2_with (first
  | (refine wpList_load_part rfl 25 (.tmp 1) rfl f 0 rfl (Cr.c F none 0).toList _ (Hf.out).all Try.underlying25 rfl cred_size (Cr.v F none 0) rfl ?_)
  | (refine wpList_buildTo rfl 28 _ rfl (some 26) rfl (Ac.c ⟨7, 1, 1, [], [], false, 0⟩ lieZ) (by kernel_rfl) ?_)
  | (refine wpList_buildTo rfl 31 _ rfl (some 27) rfl (At.c A3 alieZ) (by rw [bA3.out]; kernel_rfl) ?_))
  refine (c3.out V3).mono ?_
  rintro e w4 ⟨q3, rfl, hb⟩
  have Hf := Lib.hid (Hf.out.on hb)
  have HB := Lib.hid (HB.out.trans (hb.mono HB.out.size))
  have Hga := Lib.hid (Hga.out.on hb)
  have Hgb := Lib.hid (Hgb.out.on hb)
  clear hb c3
  obtain ⟨C, hC⟩ : ∃ C, C = At.c R3 q3 := ⟨_, rfl⟩
  have hone : C.all (·.oneCell') = true := by rw [hC]; exact c_one _ _
  have hsz : (Try.prog.info? 31).map (·.size) = some C.size := by rw [hC]; exact c_size _ _
  have hold : (zAt : Array Value).size = C.size := by rw [hC]; rfl
  have HZn := Lib.hid (heap_alloc_new w4 (.cells zAt 31))
  obtain ⟨V4, hU⟩ : ∃ Zz, Zz = (World.alloc w4 (.cells zAt 31)).setRow (World.heap w4).size C := ⟨_, rfl⟩
  obtain ⟨gc, hg⟩ : ∃ Zz, Zz = (World.heap w4).size := ⟨_, rfl⟩
  have bu : Below (World.heap w4).size w4 V4 := by rw [hU]; exact put_below w4 C
  have Hgc : Hid (Bt V4 gc R3 q3) := Lib.hid (by rw [hU, hg, hC]; exact setRow_heap _ _ _ _ _ _ (heap_alloc_new w4 _))
  have Hf := Lib.hid (Hf.out.on bu)
  have HB := Lib.hid (HB.out.trans (bu.mono HB.out.size))
  have Hga := Lib.hid (Hga.out.on bu)
  have Hgb := Lib.hid (Hgb.out.on bu)
  have HZU := Lib.hid hU
  rw [show At.v R3 q3 = .agg C by rw [hC]]
  clear hC bu hU
  go_upto_region 5 with (first
    | (refine wpList_store_rowTo rfl 31 (.tmp 6) (.tmp 29) rfl rfl (World.heap w4).size C rfl rfl 31 _ HZn.out hsz hold hone ?_; rw [← HZU.out]))
  clear HZU HZn hsz hold hone
  rw [← hg]
  clear hg
  obtain ⟨C, hC⟩ : ∃ C, C = At.c D alieZ := ⟨_, rfl⟩
  have hone : C.all (·.oneCell') = true := by rw [hC]; exact c_one _ _
  have hsz : (Try.prog.info? 31).map (·.size) = some C.size := by rw [hC]; exact c_size _ _
  have hold : (zAt : Array Value).size = C.size := by rw [hC]; rfl
  have HZn := Lib.hid (heap_alloc_new V4 (.cells zAt 31))
  obtain ⟨V5, hU⟩ : ∃ Zz, Zz = (World.alloc V4 (.cells zAt 31)).setRow (World.heap V4).size C := ⟨_, rfl⟩
  obtain ⟨gd, hg⟩ : ∃ Zz, Zz = (World.heap V4).size := ⟨_, rfl⟩
  have bu : Below (World.heap V4).size V4 V5 := by rw [hU]; exact put_below V4 C
  have Hgd : Hid (Bt V5 gd D alieZ) := Lib.hid (by rw [hU, hg, hC]; exact setRow_heap _ _ _ _ _ _ (heap_alloc_new V4 _))
  have Hf := Lib.hid (Hf.out.on bu)
  have HB := Lib.hid (HB.out.trans (bu.mono HB.out.size))
  have Hga := Lib.hid (Hga.out.on bu)
  have Hgb := Lib.hid (Hgb.out.on bu)
  have Hgc := Lib.hid (Hgc.out.on bu)
  have HZU := Lib.hid hU
  have bDC : Hid (C = At.c xD alieZ) := Lib.hid (by rw [hC, bD.out])
  clear hC bu hU
  go_upto_region 6 with (first
    | (refine wpList_store_rowTo rfl 31 (.tmp 8) (.tmp 31) rfl rfl (World.heap V4).size C rfl rfl 31 _ HZn.out hsz hold hone ?_; rw [← HZU.out])
    | (refine wpList_buildTo rfl 31 _ rfl (some 31) rfl (C) (by rw [bDC.out]; kernel_rfl) ?_))
  clear HZU HZn hsz hold hone
  rw [← hg]
  clear hg
  go_wp2_with (first
  | (refine wpList_load_part rfl 25 (.tmp 1) rfl f 0 rfl (Cr.c F none 0).toList _ (Hf.out).all Try.underlying25 rfl cred_size (Cr.v F none 0) rfl ?_)
  | (refine wpList_buildTo rfl 31 _ rfl (some 34) rfl (At.c A4 alieZ) (by rw [bA4.out]; kernel_rfl) ?_)
  | (refine wpList_buildTo rfl 28 _ rfl (some 35) rfl (Ac.c L lieZ) (by rw [bL.out]; kernel_rfl) ?_))
  refine (c4.out V5).mono ?_
  rintro e w6 ⟨q4, rfl, hb⟩
  have Hf := Lib.hid (Hf.out.on hb)
  have HB := Lib.hid (HB.out.trans (hb.mono HB.out.size))
  have Hga := Lib.hid (Hga.out.on hb)
  have Hgb := Lib.hid (Hgb.out.on hb)
  have Hgc := Lib.hid (Hgc.out.on hb)
  have Hgd := Lib.hid (Hgd.out.on hb)
  clear hb c4
  obtain ⟨C, hC⟩ : ∃ C, C = At.c R4 q4 := ⟨_, rfl⟩
  have hone : C.all (·.oneCell') = true := by rw [hC]; exact c_one _ _
  have hsz : (Try.prog.info? 31).map (·.size) = some C.size := by rw [hC]; exact c_size _ _
  have hold : (zAt : Array Value).size = C.size := by rw [hC]; rfl
  have HZn := Lib.hid (heap_alloc_new w6 (.cells zAt 31))
  obtain ⟨V6, hU⟩ : ∃ Zz, Zz = (World.alloc w6 (.cells zAt 31)).setRow (World.heap w6).size C := ⟨_, rfl⟩
  obtain ⟨gx, hg⟩ : ∃ Zz, Zz = (World.heap w6).size := ⟨_, rfl⟩
  have bu : Below (World.heap w6).size w6 V6 := by rw [hU]; exact put_below w6 C
  have Hgx : Hid (Bt V6 gx R4 q4) := Lib.hid (by rw [hU, hg, hC]; exact setRow_heap _ _ _ _ _ _ (heap_alloc_new w6 _))
  have Hf := Lib.hid (Hf.out.on bu)
  have HB := Lib.hid (HB.out.trans (bu.mono HB.out.size))
  have Hga := Lib.hid (Hga.out.on bu)
  have Hgb := Lib.hid (Hgb.out.on bu)
  have Hgc := Lib.hid (Hgc.out.on bu)
  have Hgd := Lib.hid (Hgd.out.on bu)
  have HZU := Lib.hid hU
  rw [show At.v R4 q4 = .agg C by rw [hC]]
  clear hC bu hU
  go_upto_region 7 with (first
    | (refine wpList_store_rowTo rfl 31 (.tmp 9) (.tmp 37) rfl rfl (World.heap w6).size C rfl rfl 31 _ HZn.out hsz hold hone ?_; rw [← HZU.out]))
  clear HZU HZn hsz hold hone
  rw [← hg]
  clear hg
  have y1 := Hgc.out.c2
  rw [g3] at y1
  have y2 := Hgx.out.c10
  rw [g4] at y2
  have y3 : V6.cell? ⟨gx, 11, none⟩ = some (.int .u8 (R4.df.ow : Nat)) := Hgx.out.cell 11
  rw [g5] at y3
  go_wp2_with (first
  | (refine wpList_load_part rfl 31 (.tmp 4) rfl gb 0 rfl (At.c R2 q2).toList _ (Hgb.out).bt0 Try.underlying31 rfl attr_size (At.v R2 q2) rfl ?_)
  | (refine wpList_load_part rfl 31 (.tmp 6) rfl gc 0 rfl (At.c R3 q3).toList _ (Hgc.out).bt0 Try.underlying31 rfl attr_size (At.v R3 q3) rfl ?_)
  | (refine wpList_load_part rfl 31 (.tmp 8) rfl gd 0 rfl (At.c D alieZ).toList _ (Hgd.out).bt0 Try.underlying31 rfl attr_size (At.v D alieZ) rfl ?_)
  | (refine wpList_load_part rfl 25 (.tmp 1) rfl f 0 rfl (Cr.c F none 0).toList _ (Hf.out).all Try.underlying25 rfl cred_size (Cr.v F none 0) rfl ?_))
  refine (c5.out q2 V6).mono ?_
  rintro e u1 ⟨rfl, hb⟩
  have Hf := Lib.hid (Hf.out.on hb)
  have HB := Lib.hid (HB.out.trans (hb.mono HB.out.size))
  have Hga := Lib.hid (Hga.out.on hb)
  have Hgb := Lib.hid (Hgb.out.on hb)
  have Hgc := Lib.hid (Hgc.out.on hb)
  have Hgd := Lib.hid (Hgd.out.on hb)
  have Hgx := Lib.hid (Hgx.out.on hb)
  clear hb c5 y1 y2 y3
  have y1 := Hgc.out.c2
  rw [g3] at y1
  have y2 := Hgx.out.c10
  rw [g4] at y2
  have y3 : u1.cell? ⟨gx, 11, none⟩ = some (.int .u8 (R4.df.ow : Nat)) := Hgx.out.cell 11
  rw [g5] at y3
  go_wp2_with (first
  | (refine wpList_load_part rfl 31 (.tmp 4) rfl gb 0 rfl (At.c R2 q2).toList _ (Hgb.out).bt0 Try.underlying31 rfl attr_size (At.v R2 q2) rfl ?_)
  | (refine wpList_load_part rfl 31 (.tmp 6) rfl gc 0 rfl (At.c R3 q3).toList _ (Hgc.out).bt0 Try.underlying31 rfl attr_size (At.v R3 q3) rfl ?_)
  | (refine wpList_load_part rfl 31 (.tmp 8) rfl gd 0 rfl (At.c D alieZ).toList _ (Hgd.out).bt0 Try.underlying31 rfl attr_size (At.v D alieZ) rfl ?_)
  | (refine wpList_load_part rfl 25 (.tmp 1) rfl f 0 rfl (Cr.c F none 0).toList _ (Hf.out).all Try.underlying25 rfl cred_size (Cr.v F none 0) rfl ?_))
  refine (c6.out q3 u1).mono ?_
  rintro e u2 ⟨rfl, hb⟩
  have Hf := Lib.hid (Hf.out.on hb)
  have HB := Lib.hid (HB.out.trans (hb.mono HB.out.size))
  have Hga := Lib.hid (Hga.out.on hb)
  have Hgb := Lib.hid (Hgb.out.on hb)
  have Hgc := Lib.hid (Hgc.out.on hb)
  have Hgd := Lib.hid (Hgd.out.on hb)
  have Hgx := Lib.hid (Hgx.out.on hb)
  clear hb c6 y1 y2 y3
  have y1 := Hgc.out.c2
  rw [g3] at y1
  have y2 := Hgx.out.c10
  rw [g4] at y2
  have y3 : u2.cell? ⟨gx, 11, none⟩ = some (.int .u8 (R4.df.ow : Nat)) := Hgx.out.cell 11
  rw [g5] at y3
  go_wp2_with (first
  | (refine wpList_load_part rfl 31 (.tmp 4) rfl gb 0 rfl (At.c R2 q2).toList _ (Hgb.out).bt0 Try.underlying31 rfl attr_size (At.v R2 q2) rfl ?_)
  | (refine wpList_load_part rfl 31 (.tmp 6) rfl gc 0 rfl (At.c R3 q3).toList _ (Hgc.out).bt0 Try.underlying31 rfl attr_size (At.v R3 q3) rfl ?_)
  | (refine wpList_load_part rfl 31 (.tmp 8) rfl gd 0 rfl (At.c D alieZ).toList _ (Hgd.out).bt0 Try.underlying31 rfl attr_size (At.v D alieZ) rfl ?_)
  | (refine wpList_load_part rfl 25 (.tmp 1) rfl f 0 rfl (Cr.c F none 0).toList _ (Hf.out).all Try.underlying25 rfl cred_size (Cr.v F none 0) rfl ?_))
  refine (c7.out u2).mono ?_
  rintro e u3 ⟨rfl, hb⟩
  have Hf := Lib.hid (Hf.out.on hb)
  have HB := Lib.hid (HB.out.trans (hb.mono HB.out.size))
  have Hga := Lib.hid (Hga.out.on hb)
  have Hgb := Lib.hid (Hgb.out.on hb)
  have Hgc := Lib.hid (Hgc.out.on hb)
  have Hgd := Lib.hid (Hgd.out.on hb)
  have Hgx := Lib.hid (Hgx.out.on hb)
  clear hb c7 y1 y2 y3
  have y1 := Hgc.out.c2
  rw [g3] at y1
  have y2 := Hgx.out.c10
  rw [g4] at y2
  have y3 : u3.cell? ⟨gx, 11, none⟩ = some (.int .u8 (R4.df.ow : Nat)) := Hgx.out.cell 11
  rw [g5] at y3
  go_wp2_with (first
  | (refine wpList_load_part rfl 31 (.tmp 4) rfl gb 0 rfl (At.c R2 q2).toList _ (Hgb.out).bt0 Try.underlying31 rfl attr_size (At.v R2 q2) rfl ?_)
  | (refine wpList_load_part rfl 31 (.tmp 6) rfl gc 0 rfl (At.c R3 q3).toList _ (Hgc.out).bt0 Try.underlying31 rfl attr_size (At.v R3 q3) rfl ?_)
  | (refine wpList_load_part rfl 31 (.tmp 8) rfl gd 0 rfl (At.c D alieZ).toList _ (Hgd.out).bt0 Try.underlying31 rfl attr_size (At.v D alieZ) rfl ?_)
  | (refine wpList_load_part rfl 25 (.tmp 1) rfl f 0 rfl (Cr.c F none 0).toList _ (Hf.out).all Try.underlying25 rfl cred_size (Cr.v F none 0) rfl ?_))
  refine (c8.out u3).mono ?_
  rintro e u4 ⟨rfl, hb⟩
  have Hf := Lib.hid (Hf.out.on hb)
  have HB := Lib.hid (HB.out.trans (hb.mono HB.out.size))
  have Hga := Lib.hid (Hga.out.on hb)
  have Hgb := Lib.hid (Hgb.out.on hb)
  have Hgc := Lib.hid (Hgc.out.on hb)
  have Hgd := Lib.hid (Hgd.out.on hb)
  have Hgx := Lib.hid (Hgx.out.on hb)
  clear hb c8 y1 y2 y3
  have y1 := Hgc.out.c2
  rw [g3] at y1
  have y2 := Hgx.out.c10
  rw [g4] at y2
  have y3 : u4.cell? ⟨gx, 11, none⟩ = some (.int .u8 (R4.df.ow : Nat)) := Hgx.out.cell 11
  rw [g5] at y3
  go_wp2_with (first
  | (refine wpList_load_part rfl 31 (.tmp 4) rfl gb 0 rfl (At.c R2 q2).toList _ (Hgb.out).bt0 Try.underlying31 rfl attr_size (At.v R2 q2) rfl ?_)
  | (refine wpList_load_part rfl 31 (.tmp 6) rfl gc 0 rfl (At.c R3 q3).toList _ (Hgc.out).bt0 Try.underlying31 rfl attr_size (At.v R3 q3) rfl ?_)
  | (refine wpList_load_part rfl 31 (.tmp 8) rfl gd 0 rfl (At.c D alieZ).toList _ (Hgd.out).bt0 Try.underlying31 rfl attr_size (At.v D alieZ) rfl ?_)
  | (refine wpList_load_part rfl 25 (.tmp 1) rfl f 0 rfl (Cr.c F none 0).toList _ (Hf.out).all Try.underlying25 rfl cred_size (Cr.v F none 0) rfl ?_))
  refine (c9.out u4).mono ?_
  rintro e u5 ⟨rfl, hb⟩
  have Hf := Lib.hid (Hf.out.on hb)
  have HB := Lib.hid (HB.out.trans (hb.mono HB.out.size))
  have Hga := Lib.hid (Hga.out.on hb)
  have Hgb := Lib.hid (Hgb.out.on hb)
  have Hgc := Lib.hid (Hgc.out.on hb)
  have Hgd := Lib.hid (Hgd.out.on hb)
  have Hgx := Lib.hid (Hgx.out.on hb)
  clear hb c9 y1 y2 y3
  have y1 := Hgc.out.c2
  rw [g3] at y1
  have y2 := Hgx.out.c10
  rw [g4] at y2
  have y3 : u5.cell? ⟨gx, 11, none⟩ = some (.int .u8 (R4.df.ow : Nat)) := Hgx.out.cell 11
  rw [g5] at y3
  go_wp2_with (first
  | (refine wpList_load_part rfl 31 (.tmp 4) rfl gb 0 rfl (At.c R2 q2).toList _ (Hgb.out).bt0 Try.underlying31 rfl attr_size (At.v R2 q2) rfl ?_)
  | (refine wpList_load_part rfl 31 (.tmp 6) rfl gc 0 rfl (At.c R3 q3).toList _ (Hgc.out).bt0 Try.underlying31 rfl attr_size (At.v R3 q3) rfl ?_)
  | (refine wpList_load_part rfl 31 (.tmp 8) rfl gd 0 rfl (At.c D alieZ).toList _ (Hgd.out).bt0 Try.underlying31 rfl attr_size (At.v D alieZ) rfl ?_)
  | (refine wpList_load_part rfl 25 (.tmp 1) rfl f 0 rfl (Cr.c F none 0).toList _ (Hf.out).all Try.underlying25 rfl cred_size (Cr.v F none 0) rfl ?_))
  refine (c10.out u5).mono ?_
  rintro e u6 ⟨rfl, hb⟩
  have Hf := Lib.hid (Hf.out.on hb)
  have HB := Lib.hid (HB.out.trans (hb.mono HB.out.size))
  have Hga := Lib.hid (Hga.out.on hb)
  have Hgb := Lib.hid (Hgb.out.on hb)
  have Hgc := Lib.hid (Hgc.out.on hb)
  have Hgd := Lib.hid (Hgd.out.on hb)
  have Hgx := Lib.hid (Hgx.out.on hb)
  clear hb c10 y1 y2 y3
  have y1 := Hgc.out.c2
  rw [g3] at y1
  have y2 := Hgx.out.c10
  rw [g4] at y2
  have y3 : u6.cell? ⟨gx, 11, none⟩ = some (.int .u8 (R4.df.ow : Nat)) := Hgx.out.cell 11
  rw [g5] at y3
  go_wp2_with (fail)
  go_ret
  exact ⟨rfl, HB.out⟩
end Go.Proofs.Ytdioafoikcfhhaa
