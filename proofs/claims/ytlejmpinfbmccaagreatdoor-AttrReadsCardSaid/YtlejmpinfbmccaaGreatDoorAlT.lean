/- The law's own example. -/
import Derived.Test.YtlejmpinfbmccaaGreatDoorBk
import Derived.Test.YtlejmpinfbmccaaGreatDoorTo
import Derived.Test.YtlejmpinfbmccaaGreatDoorSa
import Derived.Test.YtlejmpinfbmccaaGreatDoorMo
set_option linter.unusedSimpArgs false
set_option linter.unusedVariables false
set_option linter.unusedSimpArgs false
set_option linter.unusedVariables false
namespace Go.Proofs.YtlejmpinfbmccaaGreatDoor
open Go.RowKit SumMath WordMath
abbrev kS : ByteArray := ⟨#[107]⟩
abbrev vS1 : ByteArray := ⟨#[118]⟩
abbrev aX : At := ⟨0, 5, 6, ⟨6, 4, 0, [], [], false, 0⟩, false, acZ, [⟨kS, vS1⟩]⟩
abbrev mX : At := ⟨5, 0, 0, ⟨7, 5, 5, [], [], false, 0⟩, false, acZ, []⟩
abbrev eX : At := ⟨8, 0, 0, acZ, false, acZ, []⟩
theorem aX_may : amayB aX = true := by decide +kernel
theorem eX_no : amayB eX = false := by decide +kernel
theorem aX_num : ANum aX := ⟨by decide, by decide, ⟨fun k p h => by simp at h, fun k p h => by simp at h⟩, ⟨fun k p h => by simp at h, fun k p h => by simp at h⟩⟩
theorem aX_Z : asameB aX atZ = false := asameB_no (fun h => by injection h with _ h2; cases h2)
theorem mX_mode : modeN mX = 3053 := by decide
theorem asm_eX : ASm eX := ⟨⟨by decide, by decide⟩, ⟨by decide, by decide⟩, by decide⟩
theorem asm_aX : ASm aX := ⟨⟨by decide, by decide⟩, ⟨by decide, by decide⟩, by decide⟩
theorem asm_Z : ASm atZ := ⟨⟨by decide, by decide⟩, ⟨by decide, by decide⟩, by decide⟩
theorem nb_mX : Nb mX.ac := ⟨by decide, by decide, by decide, by decide, fun k p h => by simp at h⟩
theorem alies_nil (w : World) (x : At) (h1 : x.ac.us = []) (h2 : x.ac.gs = []) (h3 : x.df.us = []) (h4 : x.df.gs = []) (h5 : x.xs = []) : ALies w x alieZ :=
  ⟨⟨by rw [h1]; exact Cel.nil _ _, by rw [h2]; exact Cel.nil _ _⟩, ⟨by rw [h3]; exact Cel.nil _ _, by rw [h4]; exact Cel.nil _ _⟩, by rw [h5]; exact Cel.nil _ _⟩
theorem sealed_at {x : At} {k : Nat} (hk : k < 31) : (sealed (atL x)).getD k 0 = (atL x).getD k 0 := by
  unfold sealed
  rw [List.getD_eq_getElem?_getD, List.getElem?_append_left (by rw [atL_len]; exact hk), ← List.getD_eq_getElem?_getD]
theorem zeros_bad : badA (List.replicate 32 0) = some 0 := by
  have h : mkB (List.replicate 32 0) = false := by decide
  unfold badA
  rw [if_pos h]
theorem zeros_wd : Wd (List.replicate 32 0) := fun k => by rw [getD_rep]; decide
theorem sealed_wd {x : At} (h : AtFit x) : Wd (sealed (atL x)) := Wd.of_mem fun v hv => by
  unfold sealed at hv
  rcases List.mem_append.1 hv with h1 | h1
  · exact (atL_wd h).mem v h1
  · rw [List.mem_singleton] at h1
    subst h1
    exact sealW_lt (atL_wd h).mem
theorem aL0 : (atL aX).getD 0 0 = 4707480221673062416 := by decide +kernel
theorem aL1 : (atL aX).getD 1 0 = 393221 := by decide +kernel
theorem aL2 : (atL aX).getD 2 0 = 70 := by decide +kernel
theorem aX_pack : ∃ lx : List Nat, lx = sealed (atL aX) ∧ lx.length = 32 ∧ Wd lx ∧ badA lx = none ∧ attA lx = aX ∧ lx.getD 0 0 = 4707480221673062416 ∧ lx.getD 1 0 = 393221 ∧ lx.getD 2 0 = 70 :=
  have hdb := dec_back aX_may aX_num
  ⟨_, rfl, sealed_len aX, sealed_wd (fit_of aX_may aX_num), hdb.1, hdb.2, (sealed_at (by decide)).trans aL0, (sealed_at (by decide)).trans aL1, (sealed_at (by decide)).trans aL2⟩
theorem cell_X (w : World) : Cel (w.alloc (.cells #[.string kS, .string vS1] 52)) (some ⟨w.heap.size, 0, none⟩) (xv aX.xs) := fun _ => ⟨_, rfl, by simp, fun j u hu => by
  rw [add_zero_block, cell_of_row _ _ j _ _ (0, 0) (heap_alloc_new w _)]
  have h : #[Value.string kS, Value.string vS1] = (xv aX.xs).toArray := rfl
  rw [h, List.getElem?_toArray]
  exact hu⟩
theorem wp_load_part {P : Program} {o : Oper} {a : Act} {w : World} {K : Act → World → Prop} {Q : Exit → Act → World → Prop} (ty : TypeId) (x : Operand) (ho : o.op = .load ty x)
    (g k : Nat) (hx : a.eval x = .pointer (some ⟨g, k, none⟩)) (cs : List Value) (d : TypeDesc) (hc : ∀ j u, cs[j]? = some u → w.cell? ⟨g, k + j, none⟩ = some u)
    (hu : P.underlying ty = some d) (hd : (match d with | .struct _ | .array _ _ => true | _ => false) = true) (hi : (P.info? ty).map (·.size) = some cs.length) (v : Value) (hv : v = .agg cs.toArray)
    (h : K (a.put o.dst v) w) : o.wp P a w K Q := by
  subst hv
  unfold Oper.wp execOp
  simp only [ho, hx, Instr.loadAt, Instr.sureAddr, Sem.run_bind, Sem.run_pure, Result.andThen_ok, run_loadVar_part w ty g k cs d hc hu hd hi]
  exact h
end Go.Proofs.YtlejmpinfbmccaaGreatDoor
/- The law's own example. -/
set_option linter.unusedSimpArgs false
set_option linter.unusedVariables false
namespace Go.Proofs.YtlejmpinfbmccaaGreatDoor
open Go.RowKit SumMath WordMath
/-- The world of the example. -/
structure Als (w wr : World) (p : ALie) : Prop where
  bt : Bt wr (w.heap.size + 1) aX p
  li : ALies wr aX p
  be : Below w.heap.size w wr
theorem Als.on {w wr w' : World} {p : ALie} (h : Als w wr p) (hb : Below wr.heap.size wr w') : Als w w' p := ⟨h.bt.on hb, h.li.below hb, h.be.trans (hb.mono h.be.size)⟩
/-- .. with what was encoded and decoded again. -/
structure Alt (w wr : World) (p q : ALie) (g h : Nat) (lx : List Nat) : Prop where
  s : Als w wr p
  bq : Bt wr h aX q
  lq : ALies wr aX q
  bl : Blk 49 wr g lx
theorem Alt.on {w wr w' : World} {p q : ALie} {g h : Nat} {lx : List Nat} (H : Alt w wr p q g h lx) (hb : Below wr.heap.size wr w') : Alt w w' p q g h lx :=
  ⟨H.s.on hb, H.bq.on hb, H.lq.below hb, H.bl.below hb H.bl.lt⟩
set_option maxRecDepth 100000 in
set_option maxHeartbeats 8000000 in
theorem alive_calls (n : Sn) (w : World) (hT : TabAt w) (hE : ErrAt w) (hN : SnAt w n) : Calls Tryz.prog 9 #[] w fun e w' => e = .returned (.bool true) ∧ Below w.heap.size w w' := by
  obtain ⟨pX, hpX⟩ : ∃ p : ALie, p = ⟨lieZ, lieZ, some ⟨w.heap.size, 0, none⟩, 1⟩ := ⟨_, rfl⟩
  obtain ⟨U0, hU0⟩ : ∃ U0, U0 = w.alloc (.cells #[.string kS, .string vS1] 52) := ⟨_, rfl⟩
  have hsU : U0.heap.size = w.heap.size + 1 := by rw [hU0, World.size_alloc]
  obtain ⟨V, hV⟩ : ∃ V, V = (U0.alloc (.cells zA 28)).setRow (w.heap.size + 1) (aX.c ⟨lieZ, lieZ, some ⟨w.heap.size, 0, none⟩, 1⟩) := ⟨_, rfl⟩
  have hz0 : (U0.alloc (.cells zA 28)).heap[w.heap.size + 1]? = some (.cells zA 28 (0, 0)) := by rw [← hsU]; exact heap_alloc_new U0 _
  have S0 : Hid (Als w V pX) := Lib.hid (by
    have b1 : Below w.heap.size w U0 := by rw [hU0]; exact (Below.refl _ _).alloc (Nat.le_refl _) _
    have hbt : Bt V (w.heap.size + 1) aX pX := by rw [hV, hpX]; exact setRow_heap _ _ _ _ _ _ hz0
    have bv : Below (w.heap.size + 1) U0 V := by rw [hV]; exact below_setRow ((Below.refl _ _).alloc (by rw [hsU]; exact Nat.le_refl _) _) (Nat.le_refl _) _
    rw [← hsU] at bv
    have hc := (cell_X w)
    rw [← hU0] at hc
    have hcv := hc.below bv
    rw [hsU] at bv
    exact ⟨hbt, ⟨⟨Cel.nil _ _, Cel.nil _ _⟩, ⟨Cel.nil _ _, Cel.nil _ _⟩, by rw [hpX]; exact hcv⟩, b1.trans (bv.mono (Nat.le_succ _))⟩)
  have HZ0 := Lib.hid hz0
  have hone0 : (aX.c ⟨lieZ, lieZ, some ⟨w.heap.size, 0, none⟩, 1⟩).all (·.oneCell') = true := by rw [← Array.all_toList]; rfl
  clear hz0 hsU
  have HT := Lib.hid hT
  have HE := Lib.hid hE
  have HN := Lib.hid hN
  have hmk : ∀ W : World, (Instr.makeSlice 36 (.int .i64 32) (.int .i64 32)).run Tryz.prog W = .ok (.slice (some ⟨W.heap.size, 0, none⟩) 32 32) (W.alloc (.cells (madeCells #[.int .u64 0] 32) 49)) := fun W => run_make_row' (P := Tryz.prog) 36 49 (.int .u64 0) 8 Tryz.underlying36 u64_info rfl .i64 .i64 32 (by decide) (by decide) W
  have HMK := Lib.hid hmk
  have hcz := fun A W (hr : Row W A (List.replicate 32 0)) (hB : Below w.heap.size w W) => decode_calls A (List.replicate 32 0) 32 n W hr zeros_wd (by rw [List.length_replicate]; exact Nat.le_refl _) (hN.below hB) (hT.below hB)
  rw [zeros_bad, attA_bad zeros_bad, List.length_replicate] at hcz
  obtain ⟨E0, hE0⟩ : ∃ E0, E0 = errVA n (some 0) := ⟨_, rfl⟩
  rw [← hE0] at hcz
  have HCZ := Lib.hid hcz
  have hto : ∀ W, Below w.heap.size w W → Calls Tryz.prog 27 #[E0, .agg #[.int .i64 0, .int .i64 7]] W fun e w' => e = .returned (.bool true) ∧ Below W.heap.size W w' := fun W hB => by
    rw [hE0]
    exact told_calls n (some 0) W (hE.below hB) (hN.below hB) (fun k e => by cases e; exact .inl rfl)
  have HTO := Lib.hid hto
  clear hcz hto hE0
  obtain ⟨lx, hlx, hlen, hwd, hbad, hatt, h0, h1, h2⟩ := aX_pack
  have cE := fun W (hW : Als w W pX) => aencode_ok aX pX W hW.li aX_may aX_num (hT.below hW.be)
  rw [← hlx] at cE
  have HCE := Lib.hid cE
  have cD := fun A c W (hr : Row W A lx) (hc : 32 ≤ c) (hB : Below w.heap.size w W) => decode_calls A lx c n W hr hwd (by rw [hlen]; exact hc) (hN.below hB) (hT.below hB)
  rw [hbad, hatt, hlen] at cD
  have HCD := Lib.hid cD
  have HL0 := Lib.hid h0
  have HL1 := Lib.hid h1
  have HL2 := Lib.hid h2
  have HLEN := Lib.hid hlen
  clear hT hE hN hmk hlx cE hwd cD hbad hatt hlen h0 h1 h2
  go_enter Tryz.func9, Tryz.ntmps9
  go_upto_region 2 with (refine wpList_store_rowTo rfl 28 (.tmp 1) (.tmp 11) rfl rfl (w.heap.size + 1) (aX.c ⟨lieZ, lieZ, some ⟨w.heap.size, 0, none⟩, 1⟩) rfl rfl 28 zA (by rw [hU0] at HZ0; exact HZ0.out) attr_size rfl hone0 ?_; rw [← hU0, ← hV])
  clear hV hU0 hpX HZ0 hone0
  go_wp2_with (refine wpList_load_part rfl 28 (.tmp 1) rfl (w.heap.size + 1) 0 rfl (aX.c pX).toList _ S0.out.bt.bt0 Tryz.underlying28 rfl attr_size (aX.v pX) rfl ?_)
  refine (HCE.out _ S0.out).mono ?_
  rintro e w1 ⟨g, c, rfl, hB, hg, hc, hb⟩
  have S1 := Lib.hid (S0.out.on hb)
  have B1 := Lib.hid hB
  clear hb hB S0 HCE
  go_wp2_with (fail)
  refine (HCD.out (some ⟨g, 0, none⟩) c w1 B1.out.row hc S1.out.be).mono ?_
  rintro e w2 ⟨q, rfl, hal, haf, hb⟩
  rw [show errVA n none = .nilIface from rfl]
  have S2 := Lib.hid (S1.out.on hb)
  have B2 : Hid (Blk 49 w2 g lx) := Lib.hid (B1.out.below hb B1.out.lt)
  clear hb S1 B1 haf HCD
  obtain ⟨C, hC⟩ : ∃ C, C = aX.c q := ⟨_, rfl⟩
  rw [show aX.v q = .agg C by rw [hC]]
  have hone : C.all (·.oneCell') = true := by rw [hC, ← Array.all_toList]; rfl
  have hsz : (Tryz.prog.info? 28).map (·.size) = some C.size := by rw [hC]; exact attr_size
  have hold : (zA : Array Value).size = C.size := by rw [hC]; rfl
  have hz := heap_alloc_new w2 (.cells zA 28)
  obtain ⟨U2, hU2⟩ : ∃ U2, U2 = (w2.alloc (.cells zA 28)).setRow w2.heap.size C := ⟨_, rfl⟩
  have bu : Below w2.heap.size w2 U2 := by rw [hU2]; exact below_setRow ((Below.refl _ _).alloc (Nat.le_refl _) _) (Nat.le_refl _) _
  obtain ⟨h, hh⟩ : ∃ h, h = w2.heap.size := ⟨_, rfl⟩
  have S3 : Hid (Alt w U2 pX q g h lx) := Lib.hid ⟨S2.out.on bu, by unfold Bt; rw [← hC, hU2, hh]; exact setRow_heap _ _ _ _ _ _ hz, hal.below bu, B2.out.below bu B2.out.lt⟩
  have HZn := Lib.hid hz
  clear hz bu hC S2 B2 hal
  go_upto_region 4 with (refine wpList_store_rowTo rfl 28 (.tmp 4) (.tmp 20) rfl rfl w2.heap.size C rfl rfl 28 _ HZn.out hsz hold hone ?_; rw [← hU2])
  clear hU2 HZn hsz hold hone
  rw [← hh]
  clear hh
  have hmk := HMK.out
  clear HMK
  go_wp2_with (fail)
  have S4 := Lib.hid (S3.out.on ((Below.refl _ _).alloc (Nat.le_refl _) (.cells (madeCells #[.int .u64 0] 32) 49)))
  have hzr := (Blk.new U2 49 32).row
  refine (HCZ.out _ _ hzr S4.out.s.be).mono ?_
  rintro e w4 ⟨q3, rfl, hal3, haf3, hb⟩
  have S5 := Lib.hid (S4.out.on hb)
  clear hb S3 S4 hzr hal3 haf3 HCZ hmk
  obtain ⟨C3, hC3⟩ : ∃ C3, C3 = atZ.c q3 := ⟨_, rfl⟩
  rw [show atZ.v q3 = .agg C3 by rw [hC3]]
  have hone : C3.all (·.oneCell') = true := by rw [hC3, ← Array.all_toList]; rfl
  have hsz : (Tryz.prog.info? 28).map (·.size) = some C3.size := by rw [hC3]; exact attr_size
  have hold : (zA : Array Value).size = C3.size := by rw [hC3]; rfl
  have hz := heap_alloc_new w4 (.cells zA 28)
  obtain ⟨U4, hU4⟩ : ∃ U4, U4 = (w4.alloc (.cells zA 28)).setRow w4.heap.size C3 := ⟨_, rfl⟩
  have bu : Below w4.heap.size w4 U4 := by rw [hU4]; exact below_setRow ((Below.refl _ _).alloc (Nat.le_refl _) _) (Nat.le_refl _) _
  have S6 := Lib.hid (S5.out.on bu)
  have HZn := Lib.hid hz
  clear hz bu hC3 S5
  go_upto_region 5 with (refine wpList_store_rowTo rfl 28 (.tmp 6) (.tmp 25) rfl rfl w4.heap.size C3 rfl rfl 28 _ HZn.out hsz hold hone ?_; rw [← hU4])
  clear hU4 HZn hsz hold hone
  dsimp only [List.append]
  have c0 : U4.cell? ⟨g, 0, none⟩ = some (.int .u64 4707480221673062416) := by
    have h0 := S6.out.bl.cell 0 (by rw [HLEN.out]; decide)
    rw [HL0.out] at h0
    exact h0
  have c1 : U4.cell? ⟨g, 1, none⟩ = some (.int .u64 393221) := by
    have h0 := S6.out.bl.cell 1 (by rw [HLEN.out]; decide)
    rw [HL1.out] at h0
    exact h0
  have c2 : U4.cell? ⟨g, 2, none⟩ = some (.int .u64 70) := by
    have h0 := S6.out.bl.cell 2 (by rw [HLEN.out]; decide)
    rw [HL2.out] at h0
    exact h0
  go_wp2_with (first
    | (refine wpList_load_part rfl 28 (.tmp 1) rfl (w.heap.size + 1) 0 rfl (aX.c pX).toList _ S6.out.s.bt.bt0 Tryz.underlying28 rfl attr_size (aX.v pX) rfl ?_)
    | (refine wpList_load_part rfl 28 (.tmp 4) rfl h 0 rfl (aX.c q).toList _ S6.out.bq.bt0 Tryz.underlying28 rfl attr_size (aX.v q) rfl ?_))
  have hcall := asame_calls aX aX pX q U4 S6.out.s.li S6.out.lq asm_aX asm_aX
  rw [asameB_self] at hcall
  refine hcall.mono ?_
  rintro e w5 ⟨rfl, hb⟩
  have S7 := Lib.hid (S6.out.on hb)
  clear hb S6 c0 c1 c2 hcall HL0 HL1 HL2 HLEN
  obtain ⟨q1, q2, q3', q4⟩ := q
  obtain ⟨xb, xo, hX, hlt, hcell⟩ := (S7.out.lq.xs).xt (by decide)
  simp only at hX
  subst hX
  obtain ⟨e1, e2⟩ := hcell 0 ⟨kS, vS1⟩ rfl
  simp only [Nat.zero_mul, Nat.add_zero] at e1 e2
  have c18 : w5.cell? ⟨h, 18, none⟩ = some (.slice (some ⟨xb, xo, none⟩) 1 q4) := S7.out.bq.c18
  clear hcell e1
  go_wp2_with (fail)
  refine (HTO.out _ S7.out.s.be).mono ?_
  rintro e w6 ⟨rfl, hb⟩
  have S8 := Lib.hid (S7.out.on hb)
  clear hb S7 e2 c18 hlt HTO
  go_wp2_with (fail)
  have hcall := mode_calls mX alieZ w6 nb_mX (by decide)
  rw [mX_mode] at hcall
  refine hcall.mono ?_
  rintro e w7 ⟨rfl, hb⟩
  have S9 := Lib.hid (S8.out.on hb)
  clear hb S8 hcall
  go_wp2_with (refine wpList_load_part rfl 28 (.tmp 1) rfl (w.heap.size + 1) 0 rfl (aX.c pX).toList _ S9.out.s.bt.bt0 Tryz.underlying28 rfl attr_size (aX.v pX) rfl ?_)
  have hcall := acheck_calls aX pX w7 S9.out.s.li asm_aX
  rw [aX_may] at hcall
  refine hcall.mono ?_
  rintro e w8 ⟨rfl, hb⟩
  rw [show ckN true = 0 from rfl]
  have S10 := Lib.hid (S9.out.on hb)
  clear hb S9 hcall
  go_wp2_with (fail)
  have hcall := acheck_calls eX alieZ w8 (alies_nil w8 eX rfl rfl rfl rfl rfl) asm_eX
  rw [eX_no] at hcall
  refine hcall.mono ?_
  rintro e w9 ⟨rfl, hb⟩
  rw [show ckN false = 622 from rfl]
  have S11 := Lib.hid (S10.out.on hb)
  clear hb S10 hcall
  go_wp2_with (refine wpList_load_part rfl 28 (.tmp 1) rfl (w.heap.size + 1) 0 rfl (aX.c pX).toList _ S11.out.s.bt.bt0 Tryz.underlying28 rfl attr_size (aX.v pX) rfl ?_)
  have hcall := asame_calls aX atZ pX alieZ w9 S11.out.s.li (alies_Z w9) asm_aX asm_Z
  rw [aX_Z] at hcall
  refine hcall.mono ?_
  rintro e w10 ⟨rfl, hb⟩
  have S12 := Lib.hid (S11.out.on hb)
  clear hb S11 hcall
  go_wp2_with (fail)
  go_ret
  exact ⟨rfl, S12.out.s.be⟩
end Go.Proofs.YtlejmpinfbmccaaGreatDoor
