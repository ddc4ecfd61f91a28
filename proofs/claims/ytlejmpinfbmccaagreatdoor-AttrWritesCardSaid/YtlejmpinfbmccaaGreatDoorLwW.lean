/- AttrWrites: whatever it is called with, it hands back true. -/
import Derived.Test.YtlejmpinfbmccaaGreatDoorLw
set_option linter.unusedSimpArgs false
set_option linter.unusedVariables false
set_option linter.unusedSimpArgs false
set_option linter.unusedVariables false
namespace Go.Proofs.YtlejmpinfbmccaaGreatDoor
open Go.RowKit SumMath WordMath
set_option maxRecDepth 100000 in
set_option maxHeartbeats 8000000 in
theorem awrites_law (n : Sn) (x : At) (p : ALie) (w : World) (h : ALies w x p) (hs : ABg x) (hx : ANum x) (hT : TabAt w) (hE : ErrAt w) (hN : SnAt w n) :
    Calls Tryz.prog 4 #[x.v p] w fun e w' => e = .returned (.bool true) ∧ Below w.heap.size w w' := by
  obtain ⟨V, hV⟩ : ∃ V, V = w.alloc (.cells (x.c p) 28) := ⟨_, rfl⟩
  have B0 : Hid (Below w.heap.size w V) := Lib.hid (by rw [hV]; exact (Below.refl _ _).alloc (Nat.le_refl _) _)
  have X0 : Hid (Hl V w.heap.size x p) := Lib.hid (by rw [hV]; exact Hl.new h)
  have hal : ∀ W : World, Below w.heap.size w W → Calls Tryz.prog 9 #[] W fun e w' => e = .returned (.bool true) ∧ Below W.heap.size W w' := fun W hB => alive_calls n W (hT.below hB) (hE.below hB) (hN.below hB)
  have HAL := Lib.hid hal
  have HT := Lib.hid hT
  have HX := Lib.hid hx
  have c := alarge_calls x p V X0.out.li hs
  obtain ⟨lg, hlg⟩ : ∃ lg, largeB x = lg := ⟨_, rfl⟩
  rw [hlg] at c
  have HC := Lib.hid c
  have HLG := Lib.hid hlg
  clear h hs hx hT hE hN hal c hlg
  go_enter Tryz.func4, Tryz.ntmps4
  go_upto_region 1 with (fail)
  rw [← hV]
  clear hV
  go_wp2_with (refine wpList_load_part rfl 28 (.tmp 1) rfl w.heap.size 0 rfl (x.c p).toList _ X0.out.bt.bt0 Tryz.underlying28 rfl attr_size (x.v p) rfl ?_)
  refine HC.out.mono ?_
  rintro e w1 ⟨rfl, hb⟩
  have B1 := Lib.hid (B0.out.trans (hb.mono B0.out.size))
  have X1 := Lib.hid (X0.out.on hb)
  clear hb HC B0 X0
  cases lg
  case true =>
    go_wp2_with (fail)
    refine (HAL.out _ B1.out).mono ?_
    rintro e w9 ⟨rfl, hb⟩
    have B9 := Lib.hid (B1.out.trans (hb.mono B1.out.size))
    clear hb
    go_wp2_with (fail)
    go_ret
    exact ⟨rfl, B9.out⟩
  case false =>
  obtain ⟨hsm, hks⟩ := large_no HLG.out
  have HSM := Lib.hid hsm
  have HKS := Lib.hid hks
  clear hsm hks HLG
  go_wp2_with (refine wpList_load_part rfl 28 (.tmp 1) rfl w.heap.size 0 rfl (x.c p).toList _ X1.out.bt.bt0 Tryz.underlying28 rfl attr_size (x.v p) rfl ?_)
  refine (racopy_calls x p w1 X1.out.li HSM.out).mono ?_
  rintro e w2 ⟨q, rfl, hC2, hb⟩
  have B2 := Lib.hid (B1.out.trans (hb.mono B1.out.size))
  have X2 := Lib.hid (X1.out.on hb)
  have L2 := Lib.hid hC2.lies
  clear hb hC2 B1 X1
  obtain ⟨C, hC⟩ : ∃ C, C = x.c q := ⟨_, rfl⟩
  have hone : C.all (·.oneCell') = true := by rw [hC]; exact c_one x q
  have hsz : (Tryz.prog.info? 28).map (·.size) = some C.size := by rw [hC]; exact c_size x q
  have hold : (zA : Array Value).size = C.size := by rw [hC]; rfl
  have HZn := Lib.hid (heap_alloc_new w2 (.cells zA 28))
  obtain ⟨U, hU⟩ : ∃ U, U = (w2.alloc (.cells zA 28)).setRow w2.heap.size C := ⟨_, rfl⟩
  have bu : Below w2.heap.size w2 U := by rw [hU]; exact put_below w2 C
  obtain ⟨g, hh⟩ : ∃ g, g = w2.heap.size := ⟨_, rfl⟩
  have O3 : Hid (Hl U g x q) := Lib.hid (by rw [hU, hh, hC]; exact Hl.put L2.out)
  have B3 := Lib.hid (B2.out.trans (bu.mono B2.out.size))
  have X3 := Lib.hid (X2.out.on bu)
  rw [show x.v q = .agg C by rw [hC]]
  clear hC bu B2 X2 L2
  go_upto_region 4 with (first
    | (refine wpList_store_rowTo rfl 28 (.tmp 3) (.tmp 10) rfl rfl w2.heap.size C rfl rfl 28 _ HZn.out hsz hold hone ?_; rw [← hU]))
  clear hU HZn hsz hold hone
  rw [← hh]
  clear hh
  have c := aencode_bad x q U O3.out.li HSM.out
  have c2 := fun h => aencode_ok x q U O3.out.li h HX.out (HT.out.below B3.out)
  have HC := Lib.hid c
  have HC2 := Lib.hid c2
  clear c c2
  obtain ⟨m, hm⟩ : ∃ m, amayB x = m := ⟨_, rfl⟩
  cases m
  case false =>
    have HM := Lib.hid hm
    clear hm
    go_wp2_with (refine wpList_load_part rfl 28 (.tmp 3) rfl g 0 rfl (x.c q).toList _ O3.out.bt.bt0 Tryz.underlying28 rfl attr_size (x.v q) rfl ?_)
    refine (HC.out HM.out).mono ?_
    rintro e w4 ⟨rfl, hb⟩
    have B4 := Lib.hid (B3.out.trans (hb.mono B3.out.size))
    have X4 := Lib.hid (X3.out.on hb)
    have O4 := Lib.hid (O3.out.on hb)
    clear hb HC HC2 B3 X3 O3
    go_wp2_with (first
      | (refine wpList_load_part rfl 28 (.tmp 3) rfl g 0 rfl (x.c q).toList _ O4.out.bt.bt0 Tryz.underlying28 rfl attr_size (x.v q) rfl ?_)
      | (refine wpList_load_part rfl 28 (.tmp 1) rfl w.heap.size 0 rfl (x.c p).toList _ X4.out.bt.bt0 Tryz.underlying28 rfl attr_size (x.v p) rfl ?_))
    have c := rasame_calls x x q p w4 O4.out.li X4.out.li HSM.out HSM.out
    rw [asameB_self] at c
    refine c.mono ?_
    rintro e w5 ⟨rfl, hb⟩
    have B5 := Lib.hid (B4.out.trans (hb.mono B4.out.size))
    have X5 := Lib.hid (X4.out.on hb)
    clear hb c B4 X4 O4
    go_wp2_with (refine wpList_load_part rfl 28 (.tmp 1) rfl w.heap.size 0 rfl (x.c p).toList _ X5.out.bt.bt0 Tryz.underlying28 rfl attr_size (x.v p) rfl ?_)
    have c := ramay_calls x p w5 X5.out.li HSM.out (fun k q hk => by have := (HKS.out k q hk).1; omega)
    rw [HM.out] at c
    refine c.mono ?_
    rintro e w6 ⟨rfl, hb⟩
    have B6 := Lib.hid (B5.out.trans (hb.mono B5.out.size))
    clear hb c B5 X5
    go_wp2_with (fail)
    refine (HAL.out _ B6.out).mono ?_
    rintro e w9 ⟨rfl, hb⟩
    have B9 := Lib.hid (B6.out.trans (hb.mono B6.out.size))
    clear hb
    go_wp2_with (fail)
    go_ret
    exact ⟨rfl, B9.out⟩
  case true =>
  have HM := Lib.hid hm
  clear hm
  go_wp2_with (refine wpList_load_part rfl 28 (.tmp 3) rfl g 0 rfl (x.c q).toList _ O3.out.bt.bt0 Tryz.underlying28 rfl attr_size (x.v q) rfl ?_)
  refine (HC2.out HM.out).mono ?_
  rintro e w4 ⟨gl, cl, rfl, hl, _, hcl, hb⟩
  have B4 := Lib.hid (B3.out.trans (hb.mono B3.out.size))
  have X4 := Lib.hid (X3.out.on hb)
  have O4 := Lib.hid (O3.out.on hb)
  have K4 := Lib.hid hl
  clear hb hl HC HC2 B3 X3 O3
  go_wp2_with (first
    | (refine wpList_load_part rfl 28 (.tmp 3) rfl g 0 rfl (x.c q).toList _ O4.out.bt.bt0 Tryz.underlying28 rfl attr_size (x.v q) rfl ?_)
    | (refine wpList_load_part rfl 28 (.tmp 1) rfl w.heap.size 0 rfl (x.c p).toList _ X4.out.bt.bt0 Tryz.underlying28 rfl attr_size (x.v p) rfl ?_))
  have c := rasame_calls x x q p w4 O4.out.li X4.out.li HSM.out HSM.out
  rw [asameB_self] at c
  refine c.mono ?_
  rintro e w5 ⟨rfl, hb⟩
  have B5 := Lib.hid (B4.out.trans (hb.mono B4.out.size))
  have X5 := Lib.hid (X4.out.on hb)
  have K5 : Hid (Blk 49 w5 gl (sealed (atL x))) := Lib.hid (K4.out.below hb K4.out.lt)
  clear hb c B4 X4 O4 K4
  go_wp2_with (refine wpList_load_part rfl 28 (.tmp 1) rfl w.heap.size 0 rfl (x.c p).toList _ X5.out.bt.bt0 Tryz.underlying28 rfl attr_size (x.v p) rfl ?_)
  have c := ramay_calls x p w5 X5.out.li HSM.out (fun k q hk => by have := (HKS.out k q hk).1; omega)
  rw [HM.out] at c
  refine c.mono ?_
  rintro e w6 ⟨rfl, hb⟩
  have B6 := Lib.hid (B5.out.trans (hb.mono B5.out.size))
  have X6 := Lib.hid (X5.out.on hb)
  have K6 : Hid (Blk 49 w6 gl (sealed (atL x))) := Lib.hid (K5.out.below hb K5.out.lt)
  clear hb c B5 X5 K5
  go_wp2_with (refine wpList_load_part rfl 28 (.tmp 1) rfl w.heap.size 0 rfl (x.c p).toList _ X6.out.bt.bt0 Tryz.underlying28 rfl attr_size (x.v p) rfl ?_)
  refine (rencode_calls x p w6 X6.out.li (fit_of HM.out HX.out) (key_pos HM.out)).mono ?_
  rintro e w7 ⟨D, d, rfl, hr, hb⟩
  have B7 := Lib.hid (B6.out.trans (hb.mono B6.out.size))
  have K7 : Hid (Blk 49 w7 gl (sealed (atL x))) := Lib.hid (K6.out.below hb K6.out.lt)
  have R7 := Lib.hid hr
  clear hb hr B6 X6 K6
  obtain ⟨lx, hlx⟩ : ∃ lx, lx = sealed (atL x) := ⟨_, rfl⟩
  rw [← hlx] at K7 R7
  have hlen : lx.length = 32 := by rw [hlx]; exact sealed_len x
  have c := same_calls (some ⟨gl, 0, none⟩) D lx lx cl d w7 K7.out.row R7.out (by rw [hlen]; decide) (by rw [hlen]; decide)
  rw [sameV_refl, hlen] at c
  have HC := Lib.hid c
  clear c hlx hlen
  go_wp2_with (fail)
  refine HC.out.mono ?_
  rintro e w8 ⟨rfl, mm, hw8⟩
  have B8 : Hid (Below w.heap.size w w8) := Lib.hid (by rw [hw8]; exact below_drewN B7.out mm)
  clear hw8 HC B7 K7 R7
  go_wp2_with (fail)
  refine (HAL.out _ B8.out).mono ?_
  rintro e w9 ⟨rfl, hb⟩
  have B9 := Lib.hid (B8.out.trans (hb.mono B8.out.size))
  clear hb
  go_wp2_with (fail)
  go_ret
  exact ⟨rfl, B9.out⟩
end Go.Proofs.YtlejmpinfbmccaaGreatDoor
