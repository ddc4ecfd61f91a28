/- 'reads' hands back true; RedoReads. -/
import Derived.Test.YtlfpjfijlngpcaaDoorYg
set_option linter.unusedSimpArgs false
set_option linter.unusedVariables false
namespace Go.Proofs.YtlfpjfijlngpcaaDoor
open Go.RowKit WordMath
open SumMath
theorem readE_or (s : List Nat) : readE s = 0 ∨ readE s = 7 := by
  unfold readE
  by_cases h : s.length = 136
  · rw [if_pos h]
    by_cases h0 : s.getD 0 0 = 0
    · rw [if_pos h0]; exact .inl rfl
    · rw [if_neg h0]
      by_cases hs : slotB s = true
      · rw [if_pos hs]; exact .inl rfl
      · rw [if_neg hs]; exact .inr rfl
  · rw [if_neg h]; exact .inr rfl
theorem readL_len (s : List Nat) : (readL s).length < 256 := by
  unfold readL
  split
  · rw [dec_len]; unfold rdN; omega
  · decide
set_option maxRecDepth 100000 in
set_option maxHeartbeats 1000000 in
theorem reads_calls (A : Option Addr) (s : List Nat) (c : Nat) (n : Sn) (w : World) (hr : Row w A s) (hl : Wd s) (hlen : s.length ≤ 1048576) (hT : TabAt w) (hE : ErrAt w) (hN : SnAt w n) :
    Calls Tryd.prog 16 #[.slice A s.length c] w fun e w' => e = .returned (.bool true) ∧ Below w.heap.size w w' := by
  have HT := Lib.hid hT
  have HE := Lib.hid hE
  have HSN := Lib.hid hN
  obtain ⟨j0, hj0, hy0, ht0, hu0⟩ := info_parts u64_info
  have HJ := Lib.hid hj0
  have HY := Lib.hid hy0
  have HTT := Lib.hid ht0
  have HU := Lib.hid hu0
  obtain ⟨RL, hRL⟩ : ∃ Z, readL s = Z := ⟨_, rfl⟩
  obtain ⟨RE, hRE⟩ : ∃ Z, readE s = Z := ⟨_, rfl⟩
  obtain ⟨RB, hRB⟩ : ∃ Z, readB s = Z := ⟨_, rfl⟩
  have HRL := Lib.hid hRL
  have HRE := Lib.hid hRE
  have HRB := Lib.hid hRB
  have HOR := Lib.hid (readE_or s)
  rw [hRE] at HOR
  have HLN := Lib.hid (readL_len s)
  rw [hRL] at HLN
  have HLEN := Lib.hid hlen
  have HWD := Lib.hid hl
  clear hT hE hN hj0 hy0 ht0 hu0 hRL hRE hRB hl hlen
  go_enter Tryd.func16, Tryd.ntmps16
  have B0 := Lib.hid (Below.refl w.heap.size w)
  have RA := Lib.hid (hr)
  clear hr
  go_wp2_with (at_builtin; refine wpList_cloneC rfl (.const (.slice none 0 0)) (.tmp 10) 25 rfl 26 j0 Tryd.underlying25 HJ.out HY.out HTT.out HU.out A s c rfl rfl RA.out (by have := HLEN.out; omega) ?_; intro A1 c1 w1 hr1 hf1 hb1 hk1 hcap1)
  have hbb := hb1
  have B1 := Lib.hid (B0.out.trans (hbb.mono B0.out.size))
  replace RA := Lib.hid (RA.out.below hbb)
  clear B0 hbb
  have RO := Lib.hid (hr1)
  have HCAP := Lib.hid hcap1
  clear hr1 hf1 hb1 hk1 hcap1
  have c1 := read_calls A1 s c1 n w1 RO.out HWD.out (by have := HLEN.out; omega) HCAP.out (HSN.out.below B1.out) (HT.out.below B1.out)
  unfold ReadsP at c1
  rw [HRL.out, HRB.out, HRE.out] at c1
  refine c1.mono ?_
  clear c1
  rintro e w2 ⟨x, R2, cr2, rfl, hm, hb⟩
  have hbb := hb
  have B2 := Lib.hid (B1.out.trans (hbb.mono B1.out.size))
  replace RA := Lib.hid (RA.out.below hbb)
  replace RO := Lib.hid (RO.out.below hbb)
  clear B1 hbb
  have RL2 := Lib.hid (hm.cel)
  clear hm hb
  go_wp2_with (fail)
  have c1 := rread_calls A s c w2 RA.out HWD.out (by have := HLEN.out; omega)
  unfold ReadP at c1
  rw [HRL.out, HRB.out, HRE.out] at c1
  refine c1.mono ?_
  clear c1
  rintro e w3 ⟨R3, cr3, rfl, hm, hb⟩
  have hbb := hb
  have B3 := Lib.hid (B2.out.trans (hbb.mono B2.out.size))
  replace RA := Lib.hid (RA.out.below hbb)
  replace RO := Lib.hid (RO.out.below hbb)
  replace RL2 := Lib.hid (RL2.out.below hbb)
  clear B2 hbb
  have RL3 := Lib.hid (hm.cel)
  clear hm hb
  unfold fR
  go_wp2_with (fail)
  have hbx := on_alloc w3 (.cells #[.int .i64 0, .int .i64 RE] 52)
  have hcx := heap_alloc_new w3 (.cells #[.int .i64 0, .int .i64 RE] 52)
  have hbb := (hbx : Below w3.heap.size _ _)
  have B4 := Lib.hid (B3.out.trans (hbb.mono B3.out.size))
  replace RA := Lib.hid (RA.out.below hbb)
  replace RO := Lib.hid (RO.out.below hbb)
  replace RL2 := Lib.hid (RL2.out.below hbb)
  replace RL3 := Lib.hid (RL3.out.below hbb)
  clear B3 hbb
  obtain ⟨gx, hgx⟩ : ∃ g, w3.heap.size = g := ⟨_, rfl⟩
  rw [hgx] at hcx ⊢
  generalize w3.alloc (.cells #[.int .i64 0, .int .i64 RE] 52) = w4 at *
  clear hbx hgx
  have c1 := rsame_calls R2 R3 RL RL cr2 cr3 w4 RL2.out RL3.out (by have := HLN.out; omega) (by have := HLN.out; omega)
  rw [rowsB_self] at c1
  refine c1.mono ?_
  clear c1
  rintro e w' ⟨rfl, q, rfl⟩
  have hcy : (w4.drewN q).heap[gx]? = some (.cells #[.int .i64 0, .int .i64 RE] 52 (0, 0)) := hcx
  have hbb := below_drewN (Below.refl w4.heap.size w4) q
  have B5 := Lib.hid (B4.out.trans (hbb.mono B4.out.size))
  replace RA := Lib.hid (RA.out.below hbb)
  replace RO := Lib.hid (RO.out.below hbb)
  replace RL2 := Lib.hid (RL2.out.below hbb)
  replace RL3 := Lib.hid (RL3.out.below hbb)
  clear B4 hbb
  generalize w4.drewN q = w5 at *
  clear hcx
  obtain ⟨z0, z1⟩ := two_cells hcy
  have lz := lt_of_cells hcy
  clear hcy
  go_wp2_with (fail)
  clear z0 z1 lz
  have c1 := told_calls x RE w5 (HE.out.below B5.out) HOR.out
  unfold fR at c1
  refine c1.mono ?_
  clear c1
  rintro e w6 ⟨rfl, hb⟩
  have hbb := hb
  have B6 := Lib.hid (B5.out.trans (hbb.mono B5.out.size))
  replace RA := Lib.hid (RA.out.below hbb)
  replace RO := Lib.hid (RO.out.below hbb)
  replace RL2 := Lib.hid (RL2.out.below hbb)
  replace RL3 := Lib.hid (RL3.out.below hbb)
  clear B5 hbb
  clear hb
  go_wp2_with (fail)
  have c1 := same_calls A1 A s s c1 c w6 RO.out RA.out (by have := HLEN.out; omega) (by have := HLEN.out; omega)
  rw [sameV_self] at c1
  refine c1.mono ?_
  clear c1
  rintro e w' ⟨rfl, q2, rfl⟩
  go_wp2_with (fail)
  go_ret
  exact ⟨rfl, below_drewN B6.out q2⟩
end Go.Proofs.YtlfpjfijlngpcaaDoor
