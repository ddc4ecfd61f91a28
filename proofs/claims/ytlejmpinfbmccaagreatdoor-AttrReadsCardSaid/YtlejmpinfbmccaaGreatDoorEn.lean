/- What Encode hands back. -/
import Derived.Test.YtlejmpinfbmccaaGreatDoorRd
import Derived.Test.YtlejmpinfbmccaaGreatDoorKeyT
import Derived.Test.YtlejmpinfbmccaaGreatDoorSumT
set_option linter.unusedSimpArgs false
set_option linter.unusedVariables false
set_option linter.unusedSimpArgs false
set_option linter.unusedVariables false
namespace Go.Proofs.YtlejmpinfbmccaaGreatDoor
open Go.RowKit SumMath WordMath
/-- Its numbers are as their types have them. -/
structure CNum (x : Ac) : Prop where
  us : ∀ (k : Nat) p, x.us[k]? = some p → p.id < 65536 ∧ p.pm < 256
  gs : ∀ (k : Nat) p, x.gs[k]? = some p → p.id < 65536 ∧ p.pm < 256
structure ANum (x : At) : Prop where
  ui : x.ui < 65536
  gi : x.gi < 65536
  ac : CNum x.ac
  df : CNum x.df
theorem acfit_of {x : Ac} (h : mayB x = true) (hn : CNum x) : AcFit x := by
  have hm := mayB_iff.1 h
  exact ⟨hm.ow, hm.gr, hm.ot, hm.ms, (namedB_iff.1 hm.us).2, (namedB_iff.1 hm.gs).2, hn.us, hn.gs⟩
theorem amay_parts {x : At} (h : amayB x = true) : x.bi ≤ 7 ∧ mayB x.ac = true ∧ mayB x.df = true ∧ (x.hd || sameB x.df acZ) = true ∧ xsB x.xs = true := by
  unfold amayB defB at h
  simp only [Bool.and_eq_true, decide_eq_true_eq] at h
  exact ⟨h.1, h.2.1, h.2.2.1.1, h.2.2.1.2, h.2.2.2⟩
theorem fit_of {x : At} (h : amayB x = true) (hn : ANum x) : AtFit x := by
  obtain ⟨h1, h2, h3, _, h5⟩ := amay_parts h
  obtain ⟨h6, h7⟩ := xsB_iff.1 h5
  refine ⟨h1, hn.ui, hn.gi, acfit_of h2 hn.ac, acfit_of h3 hn.df, h7, fun k p hk => ?_⟩
  have hl := (List.getElem?_eq_some_iff.1 hk).1
  exact ⟨(keyB_iff.1 (h6.ky k p hl hk)).2.1, h6.vl k p hl hk⟩
theorem asm_of {x : At} (h : amayB x = true) : ASm x := by
  obtain ⟨h1, h2, h3, _, h5⟩ := amay_parts h
  have m2 := mayB_iff.1 h2
  have m3 := mayB_iff.1 h3
  have a1 := (namedB_iff.1 m2.us).2
  have a2 := (namedB_iff.1 m2.gs).2
  have a3 := (namedB_iff.1 m3.us).2
  have a4 := (namedB_iff.1 m3.gs).2
  have a5 := (xsB_iff.1 h5).2
  exact ⟨⟨by omega, by omega⟩, ⟨by omega, by omega⟩, by omega⟩
theorem sealed_len (x : At) : (sealed (atL x)).length = 32 := rfl
theorem atL_len (x : At) : (atL x).length = 31 := rfl
set_option maxRecDepth 100000 in
theorem aencode_bad (x : At) (p : ALie) (w : World) (h : ALies w x p) (hs : ASm x) (hm : amayB x = false) :
    Calls Tryz.prog 18 #[x.v p] w fun e w' => e = .returned (.tuple #[.slice none 0 0, .int .i64 622]) ∧ Below w.heap.size w w' := by
  obtain ⟨V, hV⟩ : ∃ V, V = w.alloc (.cells (x.c p) 28) := ⟨_, rfl⟩
  have hb : Below w.heap.size w V := by rw [hV]; exact (Below.refl _ _).alloc (Nat.le_refl _) _
  have hz : Bt V w.heap.size x p := by rw [hV]; exact Bt.new w x p
  have c := acheck_calls x p V (h.below hb) hs
  rw [hm] at c
  have HZ := Lib.hid hz
  have HB := Lib.hid hb
  have HC := Lib.hid c
  clear h hs hm hz hb c
  go_enter Tryz.func18, Tryz.ntmps18
  go_upto_region 1 with (fail)
  rw [← hV]
  clear hV
  go_wp2_with (refine wpList_load_row rfl 28 (.tmp 1) rfl w.heap.size rfl 28 (x.c p) (0, 0) _ HZ.out Tryz.underlying28 rfl attr_size ?_)
  refine HC.out.mono ?_
  rintro e w1 ⟨rfl, hb1⟩
  have HB1 := Lib.hid (HB.out.trans (hb1.mono HB.out.size))
  unfold ckN
  clear hb1
  go_wp2_with (fail)
  go_ret2
  exact ⟨rfl, HB1.out⟩
set_option maxRecDepth 100000 in
set_option maxHeartbeats 1000000 in
theorem aencode_ok (x : At) (p : ALie) (w : World) (h : ALies w x p) (hm : amayB x = true) (hn : ANum x) (hT : TabAt w) :
    Calls Tryz.prog 18 #[x.v p] w fun e w' => ∃ g c, e = .returned (.tuple #[.slice (some ⟨g, 0, none⟩) 32 c, .int .i64 0]) ∧ Blk 49 w' g (sealed (atL x)) ∧ w.heap.size ≤ g ∧ 32 ≤ c ∧ Below w.heap.size w w' := by
  obtain ⟨V, hV⟩ : ∃ V, V = w.alloc (.cells (x.c p) 28) := ⟨_, rfl⟩
  have hb : Below w.heap.size w V := by rw [hV]; exact (Below.refl _ _).alloc (Nat.le_refl _) _
  have hz : Bt V w.heap.size x p := by rw [hV]; exact Bt.new w x p
  have hf := fit_of hm hn
  have c := acheck_calls x p V (h.below hb) (asm_of hm)
  rw [hm] at c
  have HZ := Lib.hid hz
  have HB := Lib.hid hb
  have HC := Lib.hid c
  have HL := Lib.hid h
  have HF := Lib.hid hf
  have HWd := Lib.hid (atL_wd hf)
  have HT := Lib.hid hT
  clear h hm hz hb c hf hn hT
  go_enter Tryz.func18, Tryz.ntmps18
  go_upto_region 1 with (fail)
  rw [← hV]
  clear hV
  go_wp2_with (refine wpList_load_row rfl 28 (.tmp 1) rfl w.heap.size rfl 28 (x.c p) (0, 0) _ HZ.out Tryz.underlying28 rfl attr_size ?_)
  refine HC.out.mono ?_
  rintro e w1 ⟨rfl, hb1⟩
  have HB1 := Lib.hid (HB.out.trans (hb1.mono HB.out.size))
  have HZ1 := Lib.hid (HZ.out.on hb1)
  unfold ckN
  clear hb1 HB HZ HC
  go_wp2_with (refine wpList_load_row rfl 28 (.tmp 1) rfl w.heap.size rfl 28 (x.c p) (0, 0) _ HZ1.out Tryz.underlying28 rfl attr_size ?_)
  refine (written_calls x p w1 (HL.out.below HB1.out) HF.out).mono ?_
  rintro e w2 ⟨rfl, hb2⟩
  have HB2 := Lib.hid (HB1.out.trans (hb2.mono HB1.out.size))
  have HW1 : Hid ((wv (atL x)).toArray.all (·.oneCell') = true) := Lib.hid (by rw [← Array.all_toList, List.all_eq_true]; exact wv_one _)
  have hsz2 : (Tryz.prog.info? 68).map (·.size) = some (wv (atL x)).toArray.size := words_size
  have hz := heap_alloc_new w2 (.cells z31 68)
  have HZ2 := Lib.hid hz
  obtain ⟨U, hU⟩ : ∃ U, U = (w2.alloc (.cells z31 68)).setRow w2.heap.size (wv (atL x)).toArray := ⟨_, rfl⟩
  have HR : Hid (U.heap[w2.heap.size]? = some (.cells (wv (atL x)).toArray 68 (0, 0))) := Lib.hid (by rw [hU]; exact setRow_heap _ _ _ _ _ _ hz)
  have bu : Below w2.heap.size w2 U := by rw [hU]; exact below_setRow ((Below.refl _ _).alloc (Nat.le_refl _) _) (Nat.le_refl _) _
  have HBU := Lib.hid (HB2.out.trans (bu.mono HB2.out.size))
  have hrow : Row U (some ⟨w2.heap.size, 0, none⟩) (atL x) := Row.of_cel fun _ => ⟨_, rfl, lt_of_cells HR.out, fun j u hu => by
    rw [add_zero_block, cell_of_row _ _ _ _ _ _ HR.out]
    simpa using hu⟩
  have cS := Seal_calls2 (some ⟨w2.heap.size, 0, none⟩) (atL x) 31 U hrow HWd.out (by rw [atL_len]; decide) (HT.out.below HBU.out)
  rw [sealed_len, atL_len] at cS
  have HCS := Lib.hid cS
  have hold : (z31 : Array Value).size = (wv (atL x)).toArray.size := rfl
  have hsw : w.heap.size ≤ w2.heap.size := HB2.out.size
  clear hz bu hrow cS hb2 HB1 HZ1 HB2
  obtain ⟨C, hC⟩ : ∃ C, C = (wv (atL x)).toArray := ⟨_, rfl⟩
  rw [← hC] at HW1 hsz2 hU HR hold ⊢
  clear hC
  go_upto_region 5 with (refine wpList_store_rowTo rfl 68 (.tmp 5) (.tmp 12) rfl rfl w2.heap.size C rfl rfl 68 _ HZ2.out hsz2 hold HW1.out ?_; rw [← hU])
  clear hU HZ2 HW1 hsz2 hold
  go_wp2_with (fail)
  refine HCS.out.mono ?_
  rintro e w3 ⟨A3, c3, rfl, hr3, hf3, hb3, hc3, g, rfl, hB3⟩
  have HB3 := Lib.hid hB3
  have HB4 := Lib.hid (HBU.out.trans (hb3.mono HBU.out.size))
  obtain ⟨g', e, hg'⟩ := hf3 _ rfl
  have hgg : U.heap.size ≤ g := by injection e with e; omega
  have hus := HBU.out.size
  clear e hr3 hf3 hb3 hB3 hg' HCS HR
  go_wp2_with (fail)
  go_ret2
  exact ⟨g, c3, rfl, HB3.out, by omega, hc3, HB4.out⟩
end Go.Proofs.YtlejmpinfbmccaaGreatDoor
