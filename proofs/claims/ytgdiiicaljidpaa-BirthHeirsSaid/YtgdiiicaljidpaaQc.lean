/- The list of what is begun: what the program says, what the document says. -/
import Derived.Test.YtgdiiicaljidpaaQb
set_option linter.unusedSimpArgs false
set_option linter.unusedVariables false
set_option linter.unusedSimpArgs false
set_option linter.unusedVariables false
namespace Go.Proofs.Ytgdiiicaljidpaa
open Go.RowKit
theorem one_of {v : Value} (h : v.oneCell' = true) : ∀ u ∈ [v], u.oneCell' = true := fun u hu => by
  rw [List.mem_singleton] at hu
  rw [hu]
  exact h
theorem acl_one (l : Ac) (q : Lie) : ∀ u ∈ (l.c q).toList, u.oneCell' = true := fun u hu => by
  have h : (l.c q).toList.all (·.oneCell') = true := rfl
  exact List.all_eq_true.1 h u hu
theorem acl_all (l : Ac) (q : Lie) : (l.c q).all (·.oneCell') = true := by rw [← Array.all_toList]; rfl
theorem putc_below (w : World) (C : Array Value) : Below w.heap.size w ((w.alloc (.cells zC 28)).setRow w.heap.size C) := below_setRow ((Below.refl _ _).alloc (Nat.le_refl _) _) (Nat.le_refl _) _
theorem LiesO.only {w w' : World} {x : Ac} {p : Lie} {g : Nat} {C : Array Value} {e' : TypeId} (h : LiesO w x p) (hg : w.heap[g]? = some (.cells C e' (0, 0))) (he : 53 ≠ e') (ho : Only (fun j => j = g) w w') : LiesO w' x p :=
  ⟨h.us.keep fun ad e => ho.block _ (h.us.lt ad e) (h.us.apart hg he ad e), h.gs.keep fun ad e => ho.block _ (h.gs.lt ad e) (h.gs.apart hg he ad e)⟩
/-- A variable of a list, its rows one's own. -/
structure Hc (V : World) (g : Nat) (l : Ac) (q : Lie) : Prop where
  ab : Ab V g l q
  ow : LiesO V l q
section
variable {V V' : World} {g : Nat} {l : Ac} {q : Lie}
theorem Hc.on (h : Hc V g l q) (hb : Below V.heap.size V V') : Hc V' g l q := ⟨h.ab.on hb, h.ow.below hb⟩
theorem Hc.fresh (h : LiesO V l q) : Hc ((V.alloc (.cells zC 28)).setRow V.heap.size (l.c q)) V.heap.size l q := ⟨setRow_heap _ _ _ _ _ _ (heap_alloc_new V _), h.below (putc_below V (l.c q))⟩
theorem Hc.put {l' : Ac} {q' : Lie} (h : Hc V g l q) (ho : LiesO V l' q') : Hc (V.setRow g (l'.c q')) g l' q' := ⟨setRow_heap _ _ _ _ _ _ h.ab, ho.turn h.ab (by decide) _⟩
theorem Hc.other {g' : Nat} {C0 : Array Value} (h : Hc V g l q) (k : V.heap[g']? = some (.cells C0 28 (0, 0))) (hne : g ≠ g') (D : Array Value) : Hc (V.setRow g' D) g l q := ⟨(setRow_other V g' g D hne).trans h.ab, h.ow.turn k (by decide) D⟩
end
/-- Attributes in a block of the call's own; a result's block. -/
structure Xa (w V : World) (x : At) (p : ALie) : Prop where
  bt : Bt V w.heap.size x p
  rz : V.heap[w.heap.size + 1]? = some (.cells zC 28 (0, 0))
  al0 : ALies w x p
  be : Below w.heap.size w V
section
variable {w V V' : World} {x : At} {p : ALie}
theorem Xa.al (h : Xa w V x p) : ALies V x p := h.al0.below h.be
theorem Xa.on (h : Xa w V x p) (hb : Below V.heap.size V V') : Xa w V' x p := ⟨h.bt.on hb, (hb.block _ (lt_of_cells h.rz)).trans h.rz, h.al0, h.be.trans (hb.mono h.be.size)⟩
theorem Xa.only {g : Nat} (h : Xa w V x p) (ho : Only (fun j => j = g) V V') (hg : w.heap.size + 2 ≤ g) : Xa w V' x p :=
  ⟨(ho.block _ h.bt.lt (by omega)).trans h.bt, (ho.block _ (lt_of_cells h.rz) (by omega)).trans h.rz, h.al0, h.be.trans (ho.below h.be.size (by rintro i rfl; omega))⟩
theorem Xa.turn {g : Nat} (h : Xa w V x p) (hg : w.heap.size + 2 ≤ g) (D : Array Value) : Xa w (V.setRow g D) x p :=
  ⟨(setRow_other V g _ D (by omega)).trans h.bt, (setRow_other V g _ D (by omega)).trans h.rz, h.al0, below_setRow h.be (by omega) _⟩
theorem Xa.start (h : ALies w x p) : Xa w ((w.alloc (.cells (x.c p) 31)).alloc (.cells zC 28)) x p := by
  have b1 : Below w.heap.size w (w.alloc (.cells (x.c p) 31)) := (Below.refl _ _).alloc (Nat.le_refl _) _
  have b2 : Below (w.alloc (.cells (x.c p) 31)).heap.size (w.alloc (.cells (x.c p) 31)) ((w.alloc (.cells (x.c p) 31)).alloc (.cells zC 28)) := (Below.refl _ _).alloc (Nat.le_refl _) _
  refine ⟨(Bt.new w x p).on b2, ?_, h, b1.trans (b2.mono b1.size)⟩
  have := heap_alloc_new (w.alloc (.cells (x.c p) 31)) (.cells zC 28)
  rwa [World.size_alloc] at this
end
set_option maxRecDepth 100000 in
set_option maxHeartbeats 4000000 in
theorem access_calls (u m : Nat) (x : At) (p : ALie) (w : World) (h : ALies w x p) (hs : ASm x) (hmx : amayB x = true) (hu : u < 65536) (hm6 : m < 65536) :
    Calls Try.prog 26 #[.int .u16 (u : Nat), x.v p, .int .u16 (m : Nat)] w fun e w' => ∃ q, e = .returned (Ac.v (accA x u m) q) ∧ LiesO w' (accA x u m) q ∧ Below w.heap.size w w' := by
  obtain ⟨V, hV⟩ : ∃ V, V = (w.alloc (.cells (x.c p) 31)).alloc (.cells zC 28) := ⟨_, rfl⟩
  have S0 : Hid (Xa w V x p) := Lib.hid (by rw [hV]; exact Xa.start h)
  have y10 := S0.out.bt.c10
  have HM := Lib.hid (amay_parts hmx).2.2.1
  have HS := Lib.hid hs
  have HA0 : Hid (accA x u m = if x.hd then cutA x.df m else ofA (offW m u)) := Lib.hid rfl
  cases hh : x.hd
  case false =>
    rw [hh] at y10
    have HA : Hid (accA x u m = ofA (offW m u)) := Lib.hid (by rw [HA0.out, hh]; rfl)
    have ew : bits .andNot .u16 (m : Int) (u : Int) = ((offW m u : Nat) : Int) := u16_andNot_nat m u hm6 hu
    have hlt := offW_lt m u hm6
    generalize offW m u = o at *
    clear h hh hs hmx HA0
    go_enter Try.func26, Try.ntmps26
    go_upto_region 1 with (fail)
    rw [← hV]
    clear hV
    go_wp2_with (fail)
    refine (of_calls o V hlt).mono ?_
    rintro e w1 ⟨q, rfl, hC, hb⟩
    have S1 := Lib.hid (S0.out.on hb)
    have hl := LiesO.of hC
    clear hb S0 ew y10 hC
    obtain ⟨C, hC⟩ : ∃ C, C = Ac.c (ofA o) q := ⟨_, rfl⟩
    have hone : C.all (·.oneCell') = true := by rw [hC]; exact acl_all _ _
    have hsz : (Try.prog.info? 28).map (·.size) = some C.size := by rw [hC]; exact acl_size
    have hold : (zC : Array Value).size = C.size := by rw [hC]; rfl
    obtain ⟨Z, hZ⟩ : ∃ Z, Z = World.setRow w1 (w.heap.size + 1) C := ⟨_, rfl⟩
    have HR : Hid (Z.heap[(w.heap.size + 1)]? = some (.cells C 28 (0, 0))) := Lib.hid (by rw [hZ]; exact setRow_heap _ _ _ _ _ _ S1.out.rz)
    have HO : Hid (LiesO Z (ofA o) q) := Lib.hid (by rw [hZ]; exact LiesO.turn hl S1.out.rz (by decide) _)
    have HBZ : Hid (Below w.heap.size w Z) := Lib.hid (by rw [hZ]; exact below_setRow S1.out.be (by omega) _)
    rw [show Ac.v (ofA o) q = .agg C by rw [hC]]
    have HC := Lib.hid hC
    have HZZ := Lib.hid hZ
    clear hC hZ
    go_wp2_with (first
      | (refine wpList_store_rowTo rfl 28 (.tmp 6) (.tmp 14) rfl rfl (w.heap.size + 1) C rfl rfl 28 _ S1.out.rz hsz hold hone ?_; rw [← HZZ.out]))
    exact bodyPost_ret (results_cell_row rfl _ _ ((w.heap.size + 1)) 28 _ (0, 0) _ rfl HR.out Try.underlying28 rfl hsz) rfl ⟨q, by rw [HA.out, HC.out], by rw [HA.out]; exact HO.out, HBZ.out⟩
  case true =>
    rw [hh] at y10
    have HA : Hid (accA x u m = cutA x.df m) := Lib.hid (by rw [HA0.out, hh]; rfl)
    clear h hh hs hmx HA0
    go_enter Try.func26, Try.ntmps26
    go_upto_region 1 with (fail)
    rw [← hV]
    clear hV
    go_wp2_with (refine wpList_load_part rfl 28 (.tmp 15) rfl w.heap.size 11 rfl (Ac.c x.df p.q).toList _ S0.out.bt.df Try.underlying28 rfl acl_size (Ac.v x.df p.q) rfl ?_)
    refine (copy_calls x.df p.q V S0.out.al.df HS.out.df).mono ?_
    rintro e w1 ⟨q, rfl, hC, hb⟩
    have S1 := Lib.hid (S0.out.on hb)
    have hl := LiesO.of hC
    clear hb S0 hC y10
    have hlt1 : w.heap.size + 2 ≤ w1.heap.size := by have := lt_of_cells S1.out.rz; omega
    obtain ⟨C, hC⟩ : ∃ C, C = Ac.c (x.df) q := ⟨_, rfl⟩
    have hone : C.all (·.oneCell') = true := by rw [hC]; exact acl_all _ _
    have hsz : (Try.prog.info? 28).map (·.size) = some C.size := by rw [hC]; exact acl_size
    have hold : (zC : Array Value).size = C.size := by rw [hC]; rfl
    have HZn := Lib.hid (heap_alloc_new w1 (.cells zC 28))
    obtain ⟨U, hU⟩ : ∃ Zz, Zz = (w1.alloc (.cells zC 28)).setRow w1.heap.size C := ⟨_, rfl⟩
    obtain ⟨g, hg⟩ : ∃ Zz, Zz = w1.heap.size := ⟨_, rfl⟩
    have bu : Below w1.heap.size w1 U := by rw [hU]; exact putc_below w1 C
    have Hg : Hid (Hc U g (x.df) q) := Lib.hid (by rw [hU, hg, hC]; exact Hc.fresh hl)
    have S2 := Lib.hid (S1.out.on bu)
    have HG : Hid (w.heap.size + 2 ≤ g) := Lib.hid (by omega)
    have HUU := Lib.hid hU
    rw [show Ac.v (x.df) q = .agg C by rw [hC]]
    clear hC bu hU hl
    go_upto_region 4 with (refine wpList_store_rowTo rfl 28 (.tmp 7) (.tmp 17) rfl rfl w1.heap.size C rfl rfl 28 _ HZn.out hsz hold hone ?_; rw [← HUU.out])
    clear HUU HZn hsz hold hone
    rw [← hg]
    clear hg
    clear S1 hlt1
    go_wp2_with (fail)
    refine (cut_calls g x.df q m U Hg.out.ab HM.out hm6).mono ?_
    rintro e w3 ⟨rfl, hab, ho⟩
    have S3 := Lib.hid (S2.out.only ho HG.out)
    have hl : LiesO w3 (cutA x.df m) q := ⟨(Hg.out.ow.only Hg.out.ab (by decide) ho).us, (Hg.out.ow.only Hg.out.ab (by decide) ho).gs⟩
    have H3 : Hid (Hc w3 g (cutA x.df m) q) := Lib.hid ⟨hab, hl⟩
    clear Hg S2 hab ho
    obtain ⟨C, hC⟩ : ∃ C, C = Ac.c (cutA x.df m) q := ⟨_, rfl⟩
    have hone : C.all (·.oneCell') = true := by rw [hC]; exact acl_all _ _
    have hsz : (Try.prog.info? 28).map (·.size) = some C.size := by rw [hC]; exact acl_size
    have hold : (zC : Array Value).size = C.size := by rw [hC]; rfl
    obtain ⟨Z, hZ⟩ : ∃ Z, Z = World.setRow w3 (w.heap.size + 1) C := ⟨_, rfl⟩
    have HR : Hid (Z.heap[(w.heap.size + 1)]? = some (.cells C 28 (0, 0))) := Lib.hid (by rw [hZ]; exact setRow_heap _ _ _ _ _ _ S3.out.rz)
    have HO : Hid (LiesO Z (cutA x.df m) q) := Lib.hid (by rw [hZ]; exact LiesO.turn H3.out.ow S3.out.rz (by decide) _)
    have HBZ : Hid (Below w.heap.size w Z) := Lib.hid (by rw [hZ]; exact below_setRow S3.out.be (by omega) _)
    have HBT : Hid ((World.heap w3)[g]? = some (.cells C 28 (0, 0))) := Lib.hid (by rw [hC]; exact H3.out.ab)
    have HC := Lib.hid hC
    have HZZ := Lib.hid hZ
    clear hC hZ
    go_wp2_with (first
      | (refine wpList_load_row rfl 28 (.tmp 7) rfl g rfl 28 C (0, 0) _ HBT.out Try.underlying28 rfl hsz ?_)
      | (refine wpList_store_rowTo rfl 28 (.tmp 6) (.tmp 20) rfl rfl (w.heap.size + 1) C rfl rfl 28 _ S3.out.rz hsz hold hone ?_; rw [← HZZ.out]))
    exact bodyPost_ret (results_cell_row rfl _ _ ((w.heap.size + 1)) 28 _ (0, 0) _ rfl HR.out Try.underlying28 rfl hsz) rfl ⟨q, by rw [HA.out, HC.out], by rw [HA.out]; exact HO.out, HBZ.out⟩
set_option maxRecDepth 100000 in
set_option maxHeartbeats 4000000 in
theorem raccess_calls (u m : Nat) (x : At) (p : ALie) (w : World) (h : ALies w x p) (hs : ASm x) (hmx : amayB x = true) (hu : u < 65536) (hm6 : m < 65536) :
    Calls Try.prog 29 #[.int .u16 (u : Nat), x.v p, .int .u16 (m : Nat)] w fun e w' => ∃ q, e = .returned (Ac.v (accA x u m) q) ∧ LiesO w' (accA x u m) q ∧ Below w.heap.size w w' := by
  obtain ⟨V, hV⟩ : ∃ V, V = (w.alloc (.cells (x.c p) 31)).alloc (.cells zC 28) := ⟨_, rfl⟩
  have S0 : Hid (Xa w V x p) := Lib.hid (by rw [hV]; exact Xa.start h)
  have y10 := S0.out.bt.c10
  have HM := Lib.hid (amay_parts hmx).2.2.1
  have HS := Lib.hid hs
  have HA0 : Hid (accA x u m = if x.hd then cutA x.df m else ofA (offW m u)) := Lib.hid rfl
  cases hh : x.hd
  case false =>
    rw [hh] at y10
    have HA : Hid (accA x u m = ofA (offW m u)) := Lib.hid (by rw [HA0.out, hh]; rfl)
    have ew : bits .andNot .u16 (m : Int) (u : Int) = ((offW m u : Nat) : Int) := u16_andNot_nat m u hm6 hu
    have hlt := offW_lt m u hm6
    generalize offW m u = o at *
    clear h hh hs hmx HA0
    go_enter Try.func29, Try.ntmps29
    go_upto_region 1 with (fail)
    rw [← hV]
    clear hV
    go_wp2_with (fail)
    refine (rof_calls o V hlt).mono ?_
    rintro e w1 ⟨rfl, hb⟩
    have S1 := Lib.hid (S0.out.on hb)
    have hl : LiesO w1 (ofA o) lieZ := ⟨OwnR.nil _ _ _, OwnR.nil _ _ _⟩
    clear hb S0 ew y10
    obtain ⟨C, hC⟩ : ∃ C, C = Ac.c (ofA o) lieZ := ⟨_, rfl⟩
    have hone : C.all (·.oneCell') = true := by rw [hC]; exact acl_all _ _
    have hsz : (Try.prog.info? 28).map (·.size) = some C.size := by rw [hC]; exact acl_size
    have hold : (zC : Array Value).size = C.size := by rw [hC]; rfl
    obtain ⟨Z, hZ⟩ : ∃ Z, Z = World.setRow w1 (w.heap.size + 1) C := ⟨_, rfl⟩
    have HR : Hid (Z.heap[(w.heap.size + 1)]? = some (.cells C 28 (0, 0))) := Lib.hid (by rw [hZ]; exact setRow_heap _ _ _ _ _ _ S1.out.rz)
    have HO : Hid (LiesO Z (ofA o) lieZ) := Lib.hid (by rw [hZ]; exact LiesO.turn hl S1.out.rz (by decide) _)
    have HBZ : Hid (Below w.heap.size w Z) := Lib.hid (by rw [hZ]; exact below_setRow S1.out.be (by omega) _)
    rw [show Ac.v (ofA o) lieZ = .agg C by rw [hC]]
    have HC := Lib.hid hC
    have HZZ := Lib.hid hZ
    clear hC hZ
    go_wp2_with (first
      | (refine wpList_store_rowTo rfl 28 (.tmp 6) (.tmp 15) rfl rfl (w.heap.size + 1) C rfl rfl 28 _ S1.out.rz hsz hold hone ?_; rw [← HZZ.out]))
    exact bodyPost_ret (results_cell_row rfl _ _ ((w.heap.size + 1)) 28 _ (0, 0) _ rfl HR.out Try.underlying28 rfl hsz) rfl ⟨lieZ, by rw [HA.out, HC.out], by rw [HA.out]; exact HO.out, HBZ.out⟩
  case true =>
    rw [hh] at y10
    have HA : Hid (accA x u m = cutA x.df m) := Lib.hid (by rw [HA0.out, hh]; rfl)
    clear h hh hs hmx HA0
    go_enter Try.func29, Try.ntmps29
    go_upto_region 1 with (fail)
    rw [← hV]
    clear hV
    go_wp2_with (refine wpList_load_part rfl 28 (.tmp 16) rfl w.heap.size 11 rfl (Ac.c x.df p.q).toList _ S0.out.bt.df Try.underlying28 rfl acl_size (Ac.v x.df p.q) rfl ?_)
    refine (rcopy_calls x.df p.q V S0.out.al.df HS.out.df).mono ?_
    rintro e w1 ⟨q, rfl, hC, hb⟩
    have S1 := Lib.hid (S0.out.on hb)
    have hl := LiesO.of hC
    clear hb S0 hC y10
    have hlt1 : w.heap.size + 2 ≤ w1.heap.size := by have := lt_of_cells S1.out.rz; omega
    obtain ⟨C, hC⟩ : ∃ C, C = Ac.c (x.df) q := ⟨_, rfl⟩
    have hone : C.all (·.oneCell') = true := by rw [hC]; exact acl_all _ _
    have hsz : (Try.prog.info? 28).map (·.size) = some C.size := by rw [hC]; exact acl_size
    have hold : (zC : Array Value).size = C.size := by rw [hC]; rfl
    have HZn := Lib.hid (heap_alloc_new w1 (.cells zC 28))
    obtain ⟨U, hU⟩ : ∃ Zz, Zz = (w1.alloc (.cells zC 28)).setRow w1.heap.size C := ⟨_, rfl⟩
    obtain ⟨g, hg⟩ : ∃ Zz, Zz = w1.heap.size := ⟨_, rfl⟩
    have bu : Below w1.heap.size w1 U := by rw [hU]; exact putc_below w1 C
    have Hg : Hid (Hc U g (x.df) q) := Lib.hid (by rw [hU, hg, hC]; exact Hc.fresh hl)
    have S2 := Lib.hid (S1.out.on bu)
    have HG : Hid (w.heap.size + 2 ≤ g) := Lib.hid (by omega)
    have HUU := Lib.hid hU
    rw [show Ac.v (x.df) q = .agg C by rw [hC]]
    clear hC bu hU hl
    go_upto_region 4 with (refine wpList_store_rowTo rfl 28 (.tmp 7) (.tmp 18) rfl rfl w1.heap.size C rfl rfl 28 _ HZn.out hsz hold hone ?_; rw [← HUU.out])
    clear HUU HZn hsz hold hone
    rw [← hg]
    clear hg
    clear S1 hlt1
    go_wp2_with (fail)
    refine (rof_calls m U hm6).mono ?_
    rintro e w3 ⟨rfl, hb⟩
    have S3 := Lib.hid (S2.out.on hb)
    have HE3 := Lib.hid (Hg.out.on hb)
    have hl : LiesO w3 (ofA m) lieZ := ⟨OwnR.nil _ _ _, OwnR.nil _ _ _⟩
    have hne : g ≠ w3.heap.size := by have := HE3.out.ab.lt; omega
    clear hb S2 Hg
    obtain ⟨C, hC⟩ : ∃ C, C = Ac.c (ofA m) lieZ := ⟨_, rfl⟩
    have hone : C.all (·.oneCell') = true := by rw [hC]; exact acl_all _ _
    have hsz : (Try.prog.info? 28).map (·.size) = some C.size := by rw [hC]; exact acl_size
    have hold : (zC : Array Value).size = C.size := by rw [hC]; rfl
    have HZn := Lib.hid (heap_alloc_new w3 (.cells zC 28))
    obtain ⟨U1, hU⟩ : ∃ Zz, Zz = (w3.alloc (.cells zC 28)).setRow w3.heap.size C := ⟨_, rfl⟩
    obtain ⟨k, hg⟩ : ∃ Zz, Zz = w3.heap.size := ⟨_, rfl⟩
    have bu : Below w3.heap.size w3 U1 := by rw [hU]; exact putc_below w3 C
    have Hk : Hid (Hc U1 k (ofA m) lieZ) := Lib.hid (by rw [hU, hg, hC]; exact Hc.fresh hl)
    have S4 := Lib.hid (S3.out.on bu)
    have HE4 := Lib.hid (HE3.out.on bu)
    have HNE : Hid (k ≠ g) := Lib.hid (by omega)
    have HUU := Lib.hid hU
    rw [show Ac.v (ofA m) lieZ = .agg C by rw [hC]]
    clear hC bu hU hl
    go_upto_region 5 with (refine wpList_store_rowTo rfl 28 (.tmp 8) (.tmp 20) rfl rfl w3.heap.size C rfl rfl 28 _ HZn.out hsz hold hone ?_; rw [← HUU.out])
    clear HUU HZn hsz hold hone
    rw [← hg]
    clear hg
    clear S3 HE3 hne
    have HB : Hid (mayB x.df = true) := HM
    have hab := HE4.out
    generalize x.df = L at *
    obtain ⟨ow, gr, ot, us, gs, hm, ms⟩ := L
    have hmm := mayB_iff.1 HB.out
    have h1 : ow ≤ 7 := hmm.ow
    have h2 : gr ≤ 7 := hmm.gr
    have h3 : ot ≤ 7 := hmm.ot
    have h4 : ms ≤ 7 := hmm.ms
    obtain ⟨bo, hbo⟩ : ∃ b, m / 64 % 8 = b := ⟨_, rfl⟩
    obtain ⟨bg, hbg⟩ : ∃ b, m / 8 % 8 = b := ⟨_, rfl⟩
    obtain ⟨bt, hbt⟩ : ∃ b, m % 8 = b := ⟨_, rfl⟩
    have k1 : bo < 8 := by omega
    have k2 : bg < 8 := by omega
    have k3 : bt < 8 := by omega
    have HK : Hid (Hc U1 k ⟨bo, bg, bt, [], [], false, 0⟩ lieZ) := Lib.hid (by
      have h := Hk.out
      unfold ofA at h
      rw [hbo, hbg, hbt] at h
      exact h)
    have HA2 : Hid (accA x u m = ⟨ow &&& bo, (if hm then gr else gr &&& bg), ot &&& bt, us, gs, hm, (if hm then ms &&& bg else ms)⟩) := Lib.hid (by
      rw [HA.out]
      unfold cutA
      rw [hbo, hbg, hbt])
    clear hbo hbg hbt hab hmm HB HM HA Hk HS
    cases hm
    case true =>
      obtain ⟨y, v⟩ := And.intro (HE4.out.ab.cell 0) (HK.out.ab.cell 0)
      have e0 : bits .and .u8 (ow : Int) (bo : Int) = ((ow &&& bo : Nat) : Int) := and8 ow bo (by omega) (by omega)
      obtain ⟨U2, hU2⟩ : ∃ Zz, Zz = World.setRow U1 g (Ac.c (⟨ow &&& bo, gr, ot, us, gs, true, ms⟩ : Ac) q) := ⟨_, rfl⟩
      have HN := Lib.hid (HE4.out.put (l' := (⟨ow &&& bo, gr, ot, us, gs, true, ms⟩ : Ac)) (q' := q) ⟨HE4.out.ow.us, HE4.out.ow.gs⟩)
      have H2N := Lib.hid (HK.out.other HE4.out.ab HNE.out (Ac.c (⟨ow &&& bo, gr, ot, us, gs, true, ms⟩ : Ac) q))
      have SN := Lib.hid (S4.out.turn HG.out (Ac.c (⟨ow &&& bo, gr, ot, us, gs, true, ms⟩ : Ac) q))
      rw [← hU2] at HN H2N SN
      go_upto_region 6 with (refine wpList_store_part rfl 5 (.tmp 26) (.tmp 25) rfl rfl g 0 [.int .u8 ((ow &&& bo : Nat) : Int)] rfl rfl 28 _ HE4.out.ab u8_size (Nat.le_of_ble_eq_true rfl) (one_of rfl) (Ac.c (⟨ow &&& bo, gr, ot, us, gs, true, ms⟩ : Ac) q) rfl ?_; rw [← hU2])
      clear hU2 e0 y v HE4 HK S4
      have S5 := SN
      have HE5 := HN
      have HK5 := H2N
      clear SN HN H2N
      obtain ⟨y, v⟩ := And.intro (HE5.out.ab.cell 2) (HK5.out.ab.cell 2)
      have e0 : bits .and .u8 (ot : Int) (bt : Int) = ((ot &&& bt : Nat) : Int) := and8 ot bt (by omega) (by omega)
      obtain ⟨U3, hU3⟩ : ∃ Zz, Zz = World.setRow U2 g (Ac.c (⟨ow &&& bo, gr, ot &&& bt, us, gs, true, ms⟩ : Ac) q) := ⟨_, rfl⟩
      have HN := Lib.hid (HE5.out.put (l' := (⟨ow &&& bo, gr, ot &&& bt, us, gs, true, ms⟩ : Ac)) (q' := q) ⟨HE5.out.ow.us, HE5.out.ow.gs⟩)
      have H2N := Lib.hid (HK5.out.other HE5.out.ab HNE.out (Ac.c (⟨ow &&& bo, gr, ot &&& bt, us, gs, true, ms⟩ : Ac) q))
      have SN := Lib.hid (S5.out.turn HG.out (Ac.c (⟨ow &&& bo, gr, ot &&& bt, us, gs, true, ms⟩ : Ac) q))
      rw [← hU3] at HN H2N SN
      go_upto_region 7 with (refine wpList_store_part rfl 5 (.tmp 32) (.tmp 31) rfl rfl g 2 [.int .u8 ((ot &&& bt : Nat) : Int)] rfl rfl 28 _ HE5.out.ab u8_size (Nat.le_of_ble_eq_true rfl) (one_of rfl) (Ac.c (⟨ow &&& bo, gr, ot &&& bt, us, gs, true, ms⟩ : Ac) q) rfl ?_; rw [← hU3])
      clear hU3 e0 y v HE5 HK5 S5
      have S6 := SN
      have HE6 := HN
      have HK6 := H2N
      clear SN HN H2N
      have y5 := HE6.out.ab.cell 5
      obtain ⟨y, v⟩ := And.intro (HE6.out.ab.cell 6) (show U3.cell? ⟨k, 1, none⟩ = some (.int .u8 (bg : Nat)) from HK6.out.ab.cell 1)
      have e0 : bits .and .u8 (ms : Int) (bg : Int) = ((ms &&& bg : Nat) : Int) := and8 ms bg (by omega) (by omega)
      obtain ⟨U4, hU4⟩ : ∃ Zz, Zz = World.setRow U3 g (Ac.c (⟨ow &&& bo, gr, ot &&& bt, us, gs, true, ms &&& bg⟩ : Ac) q) := ⟨_, rfl⟩
      have HN := Lib.hid (HE6.out.put (l' := (⟨ow &&& bo, gr, ot &&& bt, us, gs, true, ms &&& bg⟩ : Ac)) (q' := q) ⟨HE6.out.ow.us, HE6.out.ow.gs⟩)
      have H2N := Lib.hid (HK6.out.other HE6.out.ab HNE.out (Ac.c (⟨ow &&& bo, gr, ot &&& bt, us, gs, true, ms &&& bg⟩ : Ac) q))
      have SN := Lib.hid (S6.out.turn HG.out (Ac.c (⟨ow &&& bo, gr, ot &&& bt, us, gs, true, ms &&& bg⟩ : Ac) q))
      rw [← hU4] at HN H2N SN
      go_upto_region 10 with (refine wpList_store_part rfl 5 (.tmp 40) (.tmp 39) rfl rfl g 6 [.int .u8 ((ms &&& bg : Nat) : Int)] rfl rfl 28 _ HE6.out.ab u8_size (Nat.le_of_ble_eq_true rfl) (one_of rfl) (Ac.c (⟨ow &&& bo, gr, ot &&& bt, us, gs, true, ms &&& bg⟩ : Ac) q) rfl ?_; rw [← hU4])
      clear hU4 e0 y v HE6 HK6 S6
      obtain ⟨C, hC⟩ : ∃ C, C = Ac.c ((⟨ow &&& bo, gr, ot &&& bt, us, gs, true, ms &&& bg⟩ : Ac)) q := ⟨_, rfl⟩
      have hone : C.all (·.oneCell') = true := by rw [hC]; exact acl_all _ _
      have hsz : (Try.prog.info? 28).map (·.size) = some C.size := by rw [hC]; exact acl_size
      have hold : (zC : Array Value).size = C.size := by rw [hC]; rfl
      obtain ⟨Z, hZ⟩ : ∃ Z, Z = World.setRow U4 (w.heap.size + 1) C := ⟨_, rfl⟩
      have HR : Hid (Z.heap[(w.heap.size + 1)]? = some (.cells C 28 (0, 0))) := Lib.hid (by rw [hZ]; exact setRow_heap _ _ _ _ _ _ SN.out.rz)
      have HO : Hid (LiesO Z ((⟨ow &&& bo, gr, ot &&& bt, us, gs, true, ms &&& bg⟩ : Ac)) q) := Lib.hid (by rw [hZ]; exact LiesO.turn HN.out.ow SN.out.rz (by decide) _)
      have HBZ : Hid (Below w.heap.size w Z) := Lib.hid (by rw [hZ]; exact below_setRow SN.out.be (by omega) _)
      have HBT : Hid ((World.heap U4)[g]? = some (.cells C 28 (0, 0))) := Lib.hid (by rw [hC]; exact HN.out.ab)
      have HC := Lib.hid hC
      have HZZ := Lib.hid hZ
      clear hC hZ
      go_wp2_with (first
        | (refine wpList_load_row rfl 28 (.tmp 7) rfl g rfl 28 C (0, 0) _ HBT.out Try.underlying28 rfl hsz ?_)
        | (refine wpList_store_rowTo rfl 28 (.tmp 6) (.tmp 47) rfl rfl (w.heap.size + 1) C rfl rfl 28 _ SN.out.rz hsz hold hone ?_; rw [← HZZ.out]))
      exact bodyPost_ret (results_cell_row rfl _ _ ((w.heap.size + 1)) 28 _ (0, 0) _ rfl HR.out Try.underlying28 rfl hsz) rfl ⟨q, by rw [HA2.out, HC.out]; rfl, by rw [HA2.out]; exact HO.out, HBZ.out⟩
    case false =>
      obtain ⟨y, v⟩ := And.intro (HE4.out.ab.cell 0) (HK.out.ab.cell 0)
      have e0 : bits .and .u8 (ow : Int) (bo : Int) = ((ow &&& bo : Nat) : Int) := and8 ow bo (by omega) (by omega)
      obtain ⟨U2, hU2⟩ : ∃ Zz, Zz = World.setRow U1 g (Ac.c (⟨ow &&& bo, gr, ot, us, gs, false, ms⟩ : Ac) q) := ⟨_, rfl⟩
      have HN := Lib.hid (HE4.out.put (l' := (⟨ow &&& bo, gr, ot, us, gs, false, ms⟩ : Ac)) (q' := q) ⟨HE4.out.ow.us, HE4.out.ow.gs⟩)
      have H2N := Lib.hid (HK.out.other HE4.out.ab HNE.out (Ac.c (⟨ow &&& bo, gr, ot, us, gs, false, ms⟩ : Ac) q))
      have SN := Lib.hid (S4.out.turn HG.out (Ac.c (⟨ow &&& bo, gr, ot, us, gs, false, ms⟩ : Ac) q))
      rw [← hU2] at HN H2N SN
      go_upto_region 6 with (refine wpList_store_part rfl 5 (.tmp 26) (.tmp 25) rfl rfl g 0 [.int .u8 ((ow &&& bo : Nat) : Int)] rfl rfl 28 _ HE4.out.ab u8_size (Nat.le_of_ble_eq_true rfl) (one_of rfl) (Ac.c (⟨ow &&& bo, gr, ot, us, gs, false, ms⟩ : Ac) q) rfl ?_; rw [← hU2])
      clear hU2 e0 y v HE4 HK S4
      have S5 := SN
      have HE5 := HN
      have HK5 := H2N
      clear SN HN H2N
      obtain ⟨y, v⟩ := And.intro (HE5.out.ab.cell 2) (HK5.out.ab.cell 2)
      have e0 : bits .and .u8 (ot : Int) (bt : Int) = ((ot &&& bt : Nat) : Int) := and8 ot bt (by omega) (by omega)
      obtain ⟨U3, hU3⟩ : ∃ Zz, Zz = World.setRow U2 g (Ac.c (⟨ow &&& bo, gr, ot &&& bt, us, gs, false, ms⟩ : Ac) q) := ⟨_, rfl⟩
      have HN := Lib.hid (HE5.out.put (l' := (⟨ow &&& bo, gr, ot &&& bt, us, gs, false, ms⟩ : Ac)) (q' := q) ⟨HE5.out.ow.us, HE5.out.ow.gs⟩)
      have H2N := Lib.hid (HK5.out.other HE5.out.ab HNE.out (Ac.c (⟨ow &&& bo, gr, ot &&& bt, us, gs, false, ms⟩ : Ac) q))
      have SN := Lib.hid (S5.out.turn HG.out (Ac.c (⟨ow &&& bo, gr, ot &&& bt, us, gs, false, ms⟩ : Ac) q))
      rw [← hU3] at HN H2N SN
      go_upto_region 7 with (refine wpList_store_part rfl 5 (.tmp 32) (.tmp 31) rfl rfl g 2 [.int .u8 ((ot &&& bt : Nat) : Int)] rfl rfl 28 _ HE5.out.ab u8_size (Nat.le_of_ble_eq_true rfl) (one_of rfl) (Ac.c (⟨ow &&& bo, gr, ot &&& bt, us, gs, false, ms⟩ : Ac) q) rfl ?_; rw [← hU3])
      clear hU3 e0 y v HE5 HK5 S5
      have S6 := SN
      have HE6 := HN
      have HK6 := H2N
      clear SN HN H2N
      have y5 := HE6.out.ab.cell 5
      obtain ⟨y, v⟩ := And.intro (HE6.out.ab.cell 1) (HK6.out.ab.cell 1)
      have e0 : bits .and .u8 (gr : Int) (bg : Int) = ((gr &&& bg : Nat) : Int) := and8 gr bg (by omega) (by omega)
      obtain ⟨U4, hU4⟩ : ∃ Zz, Zz = World.setRow U3 g (Ac.c (⟨ow &&& bo, gr &&& bg, ot &&& bt, us, gs, false, ms⟩ : Ac) q) := ⟨_, rfl⟩
      have HN := Lib.hid (HE6.out.put (l' := (⟨ow &&& bo, gr &&& bg, ot &&& bt, us, gs, false, ms⟩ : Ac)) (q' := q) ⟨HE6.out.ow.us, HE6.out.ow.gs⟩)
      have H2N := Lib.hid (HK6.out.other HE6.out.ab HNE.out (Ac.c (⟨ow &&& bo, gr &&& bg, ot &&& bt, us, gs, false, ms⟩ : Ac) q))
      have SN := Lib.hid (S6.out.turn HG.out (Ac.c (⟨ow &&& bo, gr &&& bg, ot &&& bt, us, gs, false, ms⟩ : Ac) q))
      rw [← hU4] at HN H2N SN
      go_upto_region 10 with (refine wpList_store_part rfl 5 (.tmp 46) (.tmp 45) rfl rfl g 1 [.int .u8 ((gr &&& bg : Nat) : Int)] rfl rfl 28 _ HE6.out.ab u8_size (Nat.le_of_ble_eq_true rfl) (one_of rfl) (Ac.c (⟨ow &&& bo, gr &&& bg, ot &&& bt, us, gs, false, ms⟩ : Ac) q) rfl ?_; rw [← hU4])
      clear hU4 e0 y v HE6 HK6 S6
      obtain ⟨C, hC⟩ : ∃ C, C = Ac.c ((⟨ow &&& bo, gr &&& bg, ot &&& bt, us, gs, false, ms⟩ : Ac)) q := ⟨_, rfl⟩
      have hone : C.all (·.oneCell') = true := by rw [hC]; exact acl_all _ _
      have hsz : (Try.prog.info? 28).map (·.size) = some C.size := by rw [hC]; exact acl_size
      have hold : (zC : Array Value).size = C.size := by rw [hC]; rfl
      obtain ⟨Z, hZ⟩ : ∃ Z, Z = World.setRow U4 (w.heap.size + 1) C := ⟨_, rfl⟩
      have HR : Hid (Z.heap[(w.heap.size + 1)]? = some (.cells C 28 (0, 0))) := Lib.hid (by rw [hZ]; exact setRow_heap _ _ _ _ _ _ SN.out.rz)
      have HO : Hid (LiesO Z ((⟨ow &&& bo, gr &&& bg, ot &&& bt, us, gs, false, ms⟩ : Ac)) q) := Lib.hid (by rw [hZ]; exact LiesO.turn HN.out.ow SN.out.rz (by decide) _)
      have HBZ : Hid (Below w.heap.size w Z) := Lib.hid (by rw [hZ]; exact below_setRow SN.out.be (by omega) _)
      have HBT : Hid ((World.heap U4)[g]? = some (.cells C 28 (0, 0))) := Lib.hid (by rw [hC]; exact HN.out.ab)
      have HC := Lib.hid hC
      have HZZ := Lib.hid hZ
      clear hC hZ
      go_wp2_with (first
        | (refine wpList_load_row rfl 28 (.tmp 7) rfl g rfl 28 C (0, 0) _ HBT.out Try.underlying28 rfl hsz ?_)
        | (refine wpList_store_rowTo rfl 28 (.tmp 6) (.tmp 47) rfl rfl (w.heap.size + 1) C rfl rfl 28 _ SN.out.rz hsz hold hone ?_; rw [← HZZ.out]))
      exact bodyPost_ret (results_cell_row rfl _ _ ((w.heap.size + 1)) 28 _ (0, 0) _ rfl HR.out Try.underlying28 rfl hsz) rfl ⟨q, by rw [HA2.out, HC.out]; rfl, by rw [HA2.out]; exact HO.out, HBZ.out⟩
end Go.Proofs.Ytgdiiicaljidpaa
