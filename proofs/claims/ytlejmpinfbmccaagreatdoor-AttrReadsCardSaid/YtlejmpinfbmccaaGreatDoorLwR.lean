/- AttrReads: whatever it is called with, it hands back true. -/
import Derived.Test.YtlejmpinfbmccaaGreatDoorLw
import Derived.Test.YtlejmpinfbmccaaGreatDoorBk
import Derived.Test.YtlejmpinfbmccaaGreatDoorMemT
import Derived.Test.YtlejmpinfbmccaaGreatDoorRy
set_option linter.unusedSimpArgs false
set_option linter.unusedVariables false
set_option linter.unusedSimpArgs false
set_option linter.unusedVariables false
namespace Go.Proofs.YtlejmpinfbmccaaGreatDoor
open Go.RowKit SumMath WordMath
theorem rdecode_calls (A : Option Addr) (l : List Nat) (c : Nat) (w : World) (hr : Row w A l) (hl : Wd l) (hcap : l.length ≤ c) :
    Calls Tryz.prog 46 #[.slice A l.length c] w (RDec l w) := by
  cases hm : mkB l
  · exact rdec_0 A l c w hr hl hm
  · exact rdec_1 A l c w hr hl hcap hm
theorem attA_sm (l : List Nat) : ASm (attA l) := by
  cases hb : badA l with
  | none => rw [attA_none hb]; exact rdP_sm _
  | some k => rw [attA_bad hb]; exact asm_Z
theorem fV_two (b : Option Nat) : ∃ i j : Int, fV b = .agg #[.int .i64 i, .int .i64 j] := by
  cases b with
  | none => exact ⟨0, 0, rfl⟩
  | some k => exact ⟨k, 7, rfl⟩
theorem wd_sealed {l : List Nat} (h : Wd l) : Wd (sealed l) := Wd.of_mem fun v hv => by
  unfold sealed at hv
  rcases List.mem_append.1 hv with hv | hv
  · obtain ⟨k, hk⟩ := List.getElem?_of_mem hv
    have := h k
    rw [List.getD_eq_getElem?_getD, hk] at this
    exact this
  · rw [List.mem_singleton.1 hv]
    exact sealW_lt h.mem
theorem wd_take {l : List Nat} (h : Wd l) (n : Nat) : Wd (l.take n) := Wd.of_mem fun v hv => by
  obtain ⟨k, hk⟩ := List.getElem?_of_mem (List.mem_of_mem_take hv)
  have := h k
  rw [List.getD_eq_getElem?_getD, hk] at this
  exact this
set_option maxRecDepth 100000 in
set_option maxHeartbeats 8000000 in
theorem reads_calls (n : Sn) (A : Option Addr) (l : List Nat) (c : Nat) (w : World) (hr : Row w A l) (hl : Wd l) (hlen : l.length ≤ 100) (hcap : l.length ≤ c) (hT : TabAt w) (hE : ErrAt w) (hN : SnAt w n) :
    Calls Tryz.prog 21 #[.slice A l.length c] w fun e w' => e = .returned (.bool true) ∧ Below w.heap.size w w' := by
  obtain ⟨i0, hi0, hz0, hs0, hb0⟩ := info_parts u64_info
  have HI := Lib.hid hi0
  have HZ := Lib.hid hz0
  have HS := Lib.hid hs0
  have HB := Lib.hid hb0
  have HR := Lib.hid hr
  have HWD := Lib.hid hl
  have HT := Lib.hid hT
  have HE := Lib.hid hE
  have HN := Lib.hid hN
  have HLC := Lib.hid hcap
  have HLL := Lib.hid hlen
  clear hr hl hT hE hN hi0 hz0 hs0 hb0 hcap
  go_enter Tryz.func21, Tryz.ntmps21
  go_wp2_with (at_builtin; refine wpList_cloneC rfl (.const (.slice none 0 0)) (.tmp 8) 36 rfl 49 i0 Tryz.underlying36 HI.out HZ.out HS.out HB.out A l c rfl rfl HR.out (by omega) ?_; intro A1 c1 w2 hr1 hf1 hb1 hblk1 hc1)
  have B2 := Lib.hid hb1
  have R2 := Lib.hid (HR.out.below hb1)
  refine (decode_calls A1 l c1 n w2 hr1 HWD.out hc1 (HN.out.below hb1) (HT.out.below hb1)).mono ?_
  rintro e w3 ⟨q, rfl, hal, haf, hb⟩
  have B3 := Lib.hid (B2.out.trans (hb.mono B2.out.size))
  have R3 := Lib.hid (R2.out.below hb)
  have S3 : Hid (Row w3 A1 l) := Lib.hid (hr1.below hb)
  have L3 := Lib.hid hal
  have HC1 := Lib.hid hc1
  clear hb hr1 hf1 hb1 hblk1 hc1 hal haf B2 R2 HR
  obtain ⟨y, hy⟩ : ∃ y, attA l = y := ⟨_, rfl⟩
  rw [hy] at L3 ⊢
  obtain ⟨b, hbd⟩ : ∃ b, badA l = b := ⟨_, rfl⟩
  rw [hbd]
  have HY := Lib.hid hy
  have HBD := Lib.hid hbd
  clear hy hbd
  obtain ⟨E0, hE0⟩ : ∃ E0, errVA n b = E0 := ⟨_, rfl⟩
  rw [hE0]
  have HE0 := Lib.hid hE0
  clear hE0
  obtain ⟨C, hC⟩ : ∃ C, C = y.c q := ⟨_, rfl⟩
  have hone : C.all (·.oneCell') = true := by rw [hC]; exact c_one y q
  have hsz : (Tryz.prog.info? 28).map (·.size) = some C.size := by rw [hC]; exact c_size y q
  have hold : (zA : Array Value).size = C.size := by rw [hC]; rfl
  have HZn := Lib.hid (heap_alloc_new w3 (.cells zA 28))
  obtain ⟨U3, hU⟩ : ∃ U3, U3 = (w3.alloc (.cells zA 28)).setRow w3.heap.size C := ⟨_, rfl⟩
  have bu : Below w3.heap.size w3 U3 := by rw [hU]; exact put_below w3 C
  obtain ⟨g3, hh⟩ : ∃ g3, g3 = w3.heap.size := ⟨_, rfl⟩
  have O3 : Hid (Hl U3 g3 y q) := Lib.hid (by rw [hU, hh, hC]; exact Hl.put L3.out)
  have B4 := Lib.hid (B3.out.trans (bu.mono B3.out.size))
  have R4 := Lib.hid (R3.out.below bu)
  have S4 := Lib.hid (S3.out.below bu)
  rw [show y.v q = .agg C by rw [hC]]
  clear hC bu B3 R3 S3 L3
  go_upto_region 3 with (first
    | (refine wpList_store_rowTo rfl 28 (.tmp 4) (.tmp 13) rfl rfl w3.heap.size C rfl rfl 28 _ HZn.out hsz hold hone ?_; rw [← hU]))
  clear hU HZn hsz hold hone
  rw [← hh]
  clear hh
  go_wp2_with (fail)
  refine (rdecode_calls A l c U3 R4.out HWD.out HLC.out).mono ?_
  rintro e w5 ⟨q2, rfl, hal, hb⟩
  have B5 := Lib.hid (B4.out.trans (hb.mono B4.out.size))
  have R5 := Lib.hid (R4.out.below hb)
  have S5 := Lib.hid (S4.out.below hb)
  have O5 := Lib.hid (O3.out.on hb)
  clear hb B4 R4 S4 O3
  rw [HY.out] at hal ⊢
  rw [HBD.out]
  have L5 := Lib.hid hal
  clear hal
  obtain ⟨i, j, hij⟩ := fV_two b
  rw [hij]
  have HIJ := Lib.hid hij
  clear hij
  have RV := Lib.hid (Rra.new w5)
  obtain ⟨C, hC⟩ : ∃ C, C = y.c q2 := ⟨_, rfl⟩
  have hone : C.all (·.oneCell') = true := by rw [hC]; exact c_one y q2
  have hsz : (Tryz.prog.info? 28).map (·.size) = some C.size := by rw [hC]; exact c_size y q2
  have hold : (zA : Array Value).size = C.size := by rw [hC]; rfl
  rw [show y.v q2 = .agg C by rw [hC]]
  obtain ⟨Z, hZ⟩ : ∃ Z, Z = (((w5.alloc (.cells zA 28)).alloc (.cells #[.int .i64 0, .int .i64 0] 60)).setRow w5.heap.size C).setRow (w5.heap.size + 1) #[.int .i64 i, .int .i64 j] := ⟨_, rfl⟩
  obtain ⟨p1, p2, p3⟩ := RV.out.fin C i j
  rw [← hZ] at p1 p2 p3
  have P1 := Lib.hid p1
  have P2 := Lib.hid p2
  have P3 := Lib.hid p3
  have HCC := Lib.hid hC
  clear p1 p2 p3 hC
  go_upto_region 4 with (first
    | (refine wpList_store_rowTo rfl 28 (.tmp 6) (.tmp 18) rfl rfl w5.heap.size C rfl rfl 28 _ RV.out.res hsz hold hone ?_)
    | (refine wpList_store_rowTo rfl 60 (.tmp 7) (.tmp 19) rfl rfl (w5.heap.size + 1) #[.int .i64 i, .int .i64 j] rfl rfl 60 _ (RV.out.flt2 C) fault_size rfl (two_one _ _) ?_; rw [← hZ]))
  have B6 := Lib.hid (B5.out.trans (P3.out.mono B5.out.size))
  have R6 := Lib.hid (R5.out.below P3.out)
  have S6 := Lib.hid (S5.out.below P3.out)
  have O6 := Lib.hid (O5.out.on P3.out)
  have L6 := Lib.hid (L5.out.below P3.out)
  have T6 : Hid (Bt Z w5.heap.size y q2) := Lib.hid (by unfold Bt; rw [← HCC.out]; exact P1.out)
  have HSM : Hid (ASm y) := Lib.hid (by rw [← HY.out]; exact attA_sm l)
  have cs := rasame_calls y y q q2 Z O6.out.li L6.out HSM.out HSM.out
  rw [asameB_self] at cs
  have CS := Lib.hid cs
  clear hZ hone hsz hold cs B5 R5 S5 O5 L5 RV P1 P3 HCC
  go_wp2_with (first
    | (refine wpList_load_part rfl 28 (.tmp 4) rfl g3 0 rfl (y.c q).toList _ O6.out.bt.bt0 Tryz.underlying28 rfl attr_size (y.v q) rfl ?_)
    | (refine wpList_load_part rfl 28 (.tmp 6) rfl w5.heap.size 0 rfl (y.c q2).toList _ T6.out.bt0 Tryz.underlying28 rfl attr_size (y.v q2) rfl ?_))
  refine CS.out.mono ?_
  rintro e w7 ⟨rfl, hb⟩
  have B7 := Lib.hid (B6.out.trans (hb.mono B6.out.size))
  have R7 := Lib.hid (R6.out.below hb)
  have S7 := Lib.hid (S6.out.below hb)
  have P7 : Hid (w7.heap[w5.heap.size + 1]? = some (.cells #[.int .i64 i, .int .i64 j] 60 (0, 0))) := Lib.hid ((hb.block _ (lt_of_cells P2.out)).trans P2.out)
  have HF : Hid (∀ k u, ([.int .i64 i, .int .i64 j] : List Value)[k]? = some u → w7.cell? ⟨w5.heap.size + 1, 0 + k, none⟩ = some u) := Lib.hid (fun k u hu => by
    rw [Nat.zero_add, cell_of_row _ _ _ _ _ _ P7.out]
    simpa using hu)
  have ct := told_calls n b w7 (HE.out.below B7.out) (HN.out.below B7.out) (fun k hk => badA_is (l := l) (by rw [HBD.out]; exact hk))
  rw [HE0.out, HIJ.out] at ct
  have CT := Lib.hid ct
  clear hb ct B6 R6 S6 O6 L6 T6 P2 CS
  go_wp2_with (refine wpList_load_part rfl 60 (.tmp 7) rfl (w5.heap.size + 1) 0 rfl [.int .i64 i, .int .i64 j] _ HF.out Tryz.underlying60 rfl fault_size (.agg #[.int .i64 i, .int .i64 j]) rfl ?_)
  refine CT.out.mono ?_
  rintro e w8 ⟨rfl, hb⟩
  have B8 := Lib.hid (B7.out.trans (hb.mono B7.out.size))
  have cq := same_calls A1 A l l c1 c w8 (S7.out.below hb) (R7.out.below hb) (by have := HLL.out; omega) (by have := HLL.out; omega)
  rw [sameV_refl] at cq
  have CQ := Lib.hid cq
  clear hb cq B7 R7 S7 CT HF P7
  go_wp2_with (fail)
  refine CQ.out.mono ?_
  rintro e w9 ⟨rfl, hq⟩
  have B9 : Hid (Below w.heap.size w w9) := Lib.hid (by
    obtain ⟨mm, rfl⟩ := hq
    exact below_drewN B8.out mm)
  clear hq CQ B8
  go_wp2_with (fail)
  go_ret
  exact ⟨rfl, B9.out⟩
set_option maxRecDepth 100000 in
set_option maxHeartbeats 8000000 in
theorem areads_law (n : Sn) (A : Option Addr) (c : Nat) (l : List Nat) (w : World) (hr : Row w A l) (hl : Wd l) (hlen : l.length ≤ 9223372036854775807) (hcap : l.length ≤ c) (hT : TabAt w) (hE : ErrAt w) (hN : SnAt w n) :
    Calls Tryz.prog 5 #[.slice A l.length c] w fun e w' => e = .returned (.bool true) ∧ Below w.heap.size w w' := by
  have hal : ∀ W : World, Below w.heap.size w W → Calls Tryz.prog 9 #[] W fun e w' => e = .returned (.bool true) ∧ Below W.heap.size W w' := fun W hB => alive_calls n W (hT.below hB) (hE.below hB) (hN.below hB)
  have HAL := Lib.hid hal
  have HT := Lib.hid hT
  have HE := Lib.hid hE
  have HN := Lib.hid hN
  have HR := Lib.hid hr
  have HWD := Lib.hid hl
  have HLC := Lib.hid hcap
  by_cases h100 : 100 < l.length
  case pos =>
    have d1 : decide ((100 : Int) < (l.length : Int)) = true := by rw [decide_eq_true_eq]; omega
    clear hr hl hT hE hN hal hcap
    go_enter Tryz.func5, Tryz.ntmps5
    go_wp2_with (fail)
    refine (HAL.out _ (Below.refl _ _)).mono ?_
    rintro e w9 ⟨rfl, hb⟩
    have B9 := Lib.hid hb
    clear hb
    go_wp2_with (fail)
    go_ret
    exact ⟨rfl, B9.out⟩
  case neg =>
  have d1 : decide ((100 : Int) < (l.length : Int)) = false := by rw [decide_eq_false_iff_not]; omega
  have CR := Lib.hid (reads_calls n A l c w hr hl (by omega) hcap hT hE hN)
  clear hr hl hT hE hN hal hcap
  by_cases h32 : l.length = 32
  case neg =>
    have d2 : ((l.length : Int) != 32) = true := by rw [bne_iff_ne]; omega
    clear h100 h32
    go_enter Tryz.func5, Tryz.ntmps5
    go_wp2_with (fail)
    refine CR.out.mono ?_
    rintro e w1 ⟨rfl, hb⟩
    have B1 := Lib.hid hb
    clear hb CR
    go_wp2_with (fail)
    refine (HAL.out _ B1.out).mono ?_
    rintro e w9 ⟨rfl, hb⟩
    have B9 := Lib.hid (B1.out.trans (hb.mono B1.out.size))
    clear hb
    go_wp2_with (fail)
    go_ret
    exact ⟨rfl, B9.out⟩
  case pos =>
  have HLC2 : 32 ≤ c := by have := HLC.out; omega
  have hs31 : (sealed (l.take 31)).length = 32 := by unfold sealed; rw [List.length_append, List.length_take]; simp; omega
  have ht31 : (l.take 31).length = 31 := by rw [List.length_take]; omega
  have HS31 := Lib.hid hs31
  have HT31 := Lib.hid ht31
  rw [h32] at CR d1 ⊢
  clear h100 h32 hlen HLC hs31 ht31
  go_enter Tryz.func5, Tryz.ntmps5
  go_wp2_with (fail)
  refine CR.out.mono ?_
  rintro e w1 ⟨rfl, hb⟩
  have B1 := Lib.hid hb
  have ck := rseal_calls A (l.take 31) c w1 ((HR.out.below hb).take 31) (wd_take HWD.out 31) (by rw [HT31.out]; decide)
  rw [HT31.out, HS31.out] at ck
  have CK := Lib.hid ck
  clear hb ck CR HR
  go_wp2_with (fail)
  refine CK.out.mono ?_
  rintro e w2 ⟨A2, c2, rfl, hr2, _, hb, hc2⟩
  have B2 := Lib.hid (B1.out.trans (hb.mono B1.out.size))
  have cr := reads_calls n A2 (sealed (l.take 31)) c2 w2 hr2 (wd_sealed (wd_take HWD.out 31)) (by rw [HS31.out]; decide) (by rw [HS31.out]; exact hc2) (HT.out.below B2.out) (HE.out.below B2.out) (HN.out.below B2.out)
  rw [HS31.out] at cr
  have CR := Lib.hid cr
  clear hb hr2 hc2 cr CK B1
  go_wp2_with (fail)
  refine CR.out.mono ?_
  rintro e w3 ⟨rfl, hb⟩
  have B3 := Lib.hid (B2.out.trans (hb.mono B2.out.size))
  clear hb CR B2
  go_wp2_with (fail)
  refine (HAL.out _ B3.out).mono ?_
  rintro e w9 ⟨rfl, hb⟩
  have B9 := Lib.hid (B3.out.trans (hb.mono B3.out.size))
  clear hb
  go_wp2_with (fail)
  go_ret
  exact ⟨rfl, B9.out⟩
end Go.Proofs.YtlejmpinfbmccaaGreatDoor
