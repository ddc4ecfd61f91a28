/- EntryBack: whatever it is called with, it hands back true; nothing that was there has turned. -/
import Derived.Test.YtipghcpodhokbaaDoorLaw3
import Derived.Test.YtipghcpodhokbaaDoorStp6
import Derived.Test.YtipghcpodhokbaaDoorTurnS
set_option linter.unusedSimpArgs false
set_option linter.unusedVariables false
namespace Go.Proofs.YtipghcpodhokbaaDoor
open Go.RowKit WordMath SumMath
theorem dec_slW (x : Slt) (P I B : Int) (hm : mayB x P I B = true) (A : Option Addr) (c : Nat) (u : World) (hr : Row u A (slW x)) (hc : (slW x).length ≤ c) (hu : TabAt u) : Calls Tryd.prog 21 #[.slice A (slW x).length c, gv P I B] u fun e w' => e = .returned (.tuple #[x.v, .nilIface]) ∧ On u w' := by
  unfold mayB at hm
  simp only [Bool.and_eq_true, decide_eq_true_eq] at hm
  obtain ⟨hg, hx⟩ := hm
  have hI : I ≤ 64 := hg.2.1.2
  have hok := decOk_slW hx hI
  have h := dec_calls A (slW x) c P I B u hr (slW_wd (okS_fit hx hI)) hc hu
  have e1 : decBad (slW x) P I B = none := by unfold decBad; rw [if_neg (by simpa using hg), if_pos hok.1]
  have e2 : decV (slW x) P I B = x := by unfold decV; rw [if_pos e1, hok.2]
  rw [e1, e2] at h
  exact h
theorem dW_wd {d : Dbl} {P I B : Int} (hL : d.L.length = 10) (hm : mayD d P I B = true) : Wd (dW d) := by
  obtain ⟨hg, h0, h1, hs⟩ := mayD_of hm
  have hI : I ≤ 64 := hg.2.1.2
  have hB : B ≤ 255 := hg.2.2.2
  intro i
  match i with
  | 0 => rw [dW_zero]; unfold headN; omega
  | 1 => rw [dW_one]; decide
  | i + 2 =>
    by_cases hi : i < 30
    · obtain ⟨k, j, hj, hk2, rfl⟩ : ∃ k j, j < 3 ∧ k < 10 ∧ i = k * 3 + j := ⟨i / 3, i % 3, by omega, by omega, by omega⟩
      rw [show k * 3 + j + 2 = 2 + k * 3 + j by omega, ← rowK_get _ k j hj, rowK_dW _ k (by omega)]
      exact slW_wd (okS_fit (hs k (by omega)) hI) j
    · rw [List.getD_eq_getElem?_getD, List.getElem?_eq_none (by rw [dW_length hL]; omega)]; decide
theorem read_block (d : Dbl) (P I B : Int) (hL : d.L.length = 10) (hm : mayD d P I B = true) (A : Option Addr) (c : Nat) (u : World) (hr : Row u A (dW d)) (hc : (dW d).length ≤ c) (hu : TabAt u) (hE : ErrAt u) : Calls Tryd.prog 22 #[.slice A (dW d).length c, gv P I B] u fun e w' => e = .returned (.tuple #[d.v, .nilIface]) ∧ On u w' := by
  obtain ⟨e1, e2⟩ := read_dW hL hm
  have h := readD_calls A (dW d) c P I B u hr (dW_wd hL hm) hc hu hE
  have e3 : decD (dW d) P I B = d := by unfold decD; rw [if_pos e1, e2]
  rw [e1, e3] at h
  exact h
set_option maxRecDepth 100000 in
set_option maxHeartbeats 2000000 in
theorem eback_long (s : Slt) (d : Dbl) (C : Option Addr) (m : List Nat) (cm : Nat) (P I B : Int) (w : World) (hL : d.L.length = 10) (hl : 200 < s.S.size ∨ longD d = true ∨ 100 < m.length) (hT : TabAt w) (hE : ErrAt w) :
    Calls Tryd.prog 5 #[s.v, d.v, .slice C m.length cm, gv P I B] w fun e w' => e = .returned (.bool true) ∧ On w w' := by
  have T := Lib.hid (Tri.new w s d P I B)
  have HT := Lib.hid hT
  have HE := Lib.hid hE
  have HL := Lib.hid hL
  have hlong := fun W => long_calls d W hL
  generalize m.length = j at *
  generalize hlv : longD d = lv at *
  have HLO := Lib.hid hlong
  clear hT hE hL hlong
  go_enter Tryd.func5, Tryd.ntmps5
  go_upto_region 1 with (fail)
  generalize ((w.alloc (.cells s.c 23)).alloc (.cells d.c 26)).alloc (.cells #[.int .i64 P, .int .i64 I, .int .i64 B] 28) = W at *
  obtain ⟨s0, s1, s2⟩ := Sb.cells T.out.slo
  have hls := Ob.lt T.out.slo
  by_cases hs : 200 < s.S.size
  · clear hl
    go_wp2_with (fail)
    refine (alive_calls _ (HT.out.below T.out.on) (HE.out.below T.out.on)).mono ?_
    rintro e w1 ⟨rfl, hb⟩
    have b1 := T.out.on.trans hb
    clear T s0 s1 s2 hls hb
    go_wp2_with (fail)
    go_ret
    exact ⟨rfl, b1⟩
  · have hd : decide (200 < (s.S.size : Int)) = false := by rw [decide_eq_false_iff_not]; omega
    go_wp2_with (first | (refine wpList_load_rowW rfl 23 (.tmp 4) rfl w.heap.size rfl 23 s.c (0, 0) _ T.out.slo Tryd.underlying23 rfl (by kernel_rfl) ?_) | (refine wpList_load_rowW rfl 26 (.tmp 5) rfl (w.heap.size + 1) rfl 26 d.c (0, 0) _ T.out.blk Tryd.underlying26 rfl (Dbl.infoT HL.out) ?_) | (refine wpList_load_rowW rfl 28 (.tmp 7) rfl (w.heap.size + 1 + 1) rfl 28 #[.int .i64 P, .int .i64 I, .int .i64 B] (0, 0) _ T.out.geo Tryd.underlying28 rfl (by kernel_rfl) ?_))
    refine (HLO.out _).mono ?_
    rintro e w1 ⟨rfl, hb⟩
    replace T := Lib.hid (T.out.on' hb)
    clear hb s0 s1 s2 hls hd HLO
    cases lv with
    | true =>
      clear hl
      go_wp2_with (fail)
      refine (alive_calls _ (HT.out.below T.out.on) (HE.out.below T.out.on)).mono ?_
      rintro e w2 ⟨rfl, hb⟩
      have b1 := T.out.on.trans hb
      clear T hb
      go_wp2_with (fail)
      go_ret
      exact ⟨rfl, b1⟩
    | false =>
      have hd2 : decide (100 < (j : Int)) = true := decide_eq_true (by
        rcases hl with h | h | h
        · exact absurd h hs
        · cases h
        · omega)
      clear hl hs
      go_wp2_with (fail)
      refine (alive_calls _ (HT.out.below T.out.on) (HE.out.below T.out.on)).mono ?_
      rintro e w2 ⟨rfl, hb⟩
      have b1 := T.out.on.trans hb
      clear T hb
      go_wp2_with (fail)
      go_ret
      exact ⟨rfl, b1⟩
set_option maxRecDepth 100000 in
set_option maxHeartbeats 4000000 in
theorem eback_go (s : Slt) (d : Dbl) (C : Option Addr) (m : List Nat) (cm : Nat) (P I B : Int) (w : World) (hL : d.L.length = 10) (hs : s.S.size ≤ 200) (hl : longD d = false) (hlm : m.length ≤ 100) (hrm : Row w C m) (hwm : Wd m) (hcm : m.length ≤ cm) (hT : TabAt w) (hE : ErrAt w) :
    Calls Tryd.prog 5 #[s.v, d.v, .slice C m.length cm, gv P I B] w fun e w' => e = .returned (.bool true) ∧ On w w' := by
  have T := Lib.hid (Tri.new w s d P I B)
  have RM := Lib.hid (hrm.below (Tri.new w s d P I B).on)
  have HT := Lib.hid hT
  have HE := Lib.hid hE
  have HL := Lib.hid hL
  have hlong := fun W => long_calls d W hL
  rw [hl] at hlong
  have hen := fun W hW => encode_calls s P I B W hW
  have hbl := fun W hW => blockw_calls d P I B W hL hW
  have hem := fun W => emay_calls s P I B W
  have hde := fun (h : mayB s P I B = true) => dec_slW s P I B h
  have hrd := fun (h : mayD d P I B = true) => read_block d P I B hL h
  have hrmr := fun A c W (hr : Row W A m) (hc : m.length ≤ c) (hT : TabAt W) (hE : ErrAt W) => readD_calls A m c P I B W hr hwm hc hT hE
  have hdl := decD_length m P I B
  have hw : (errD (badD m P I B) = .nilIface ∧ ∀ W, TabAt W → Calls Tryd.prog 11 #[(decD m P I B).v, gv P I B] W (Gives true m W)) ∨ ((∃ k n, errD (badD m P I B) = misV k n blockT) ∧ decD m P I B = zD) := by
    cases hb : badD m P I B with
    | none =>
      left
      refine ⟨rfl, fun W hW => ?_⟩
      obtain ⟨e1, e2⟩ := dW_read hb
      have e3 : decD m P I B = rdD m := by unfold decD; rw [if_pos hb]
      have h := blockw_calls (rdD m) P I B W (rdD_length m) hW
      rw [e1, e2] at h
      rw [e3]
      exact h
    | some kn =>
      right
      refine ⟨⟨kn.1, kn.2, rfl⟩, ?_⟩
      unfold decD
      rw [if_neg (by rw [hb]; simp)]
  have hzd : ∀ W, (Op.equalIn 10000 26 (.agg zD.c) (.agg #[.int .i64 0, .int .i64 0, .int .u8 0, .string ⟨#[]⟩, .int .i64 0, .int .u8 0, .string ⟨#[]⟩, .int .i64 0, .int .u8 0, .string ⟨#[]⟩, .int .i64 0, .int .u8 0, .string ⟨#[]⟩, .int .i64 0, .int .u8 0, .string ⟨#[]⟩, .int .i64 0, .int .u8 0, .string ⟨#[]⟩, .int .i64 0, .int .u8 0, .string ⟨#[]⟩, .int .i64 0, .int .u8 0, .string ⟨#[]⟩, .int .i64 0, .int .u8 0, .string ⟨#[]⟩, .int .i64 0, .int .u8 0, .string ⟨#[]⟩])).run Tryd.prog W = .ok true W := fun W => by
    have h := eqD zD (by simp [zD, zL]) W
    rw [← zD_cells]
    exact h
  have hed : ∀ W, (Op.equalIn 10000 26 (.agg d.c) (.agg d.c)).run Tryd.prog W = .ok true W := fun W => eqD d hL W
  have heq : ∀ W, (Op.equalIn 10000 23 (.agg s.c) (.agg s.c)).run Tryd.prog W = .ok true W := fun W => by
    have h := eqS s.I s.K s.S s.I s.K s.S W
    rwa [sameS_self] at h
  generalize decD m P I B = dd at *
  generalize errD (badD m P I B) = ed at *
  generalize mayB s P I B = m1 at *
  generalize mayD d P I B = m3 at *
  generalize slW s = l at *
  generalize dW d = q at *
  have HLO := Lib.hid hlong
  have HEN := Lib.hid hen
  have HBL := Lib.hid hbl
  have HEM := Lib.hid hem
  have HDE := Lib.hid hde
  have HRD := Lib.hid hrd
  have HRM := Lib.hid hrmr
  have HDL := Lib.hid hdl
  have hway := Lib.hid hw
  have HZD := Lib.hid hzd
  have HED := Lib.hid hed
  have HEQ := Lib.hid heq
  have HLM := Lib.hid hlm
  have hd : decide (200 < (s.S.size : Int)) = false := by rw [decide_eq_false_iff_not]; omega
  have hd2 : decide (100 < (m.length : Int)) = false := by rw [decide_eq_false_iff_not]; omega
  clear hT hE hL hs hl hlm hrm hwm hcm hlong hen hbl hem hde hrd hrmr hdl hw hzd hed heq
  go_enter Tryd.func5, Tryd.ntmps5
  go_upto_region 1 with (fail)
  generalize ((w.alloc (.cells s.c 23)).alloc (.cells d.c 26)).alloc (.cells #[.int .i64 P, .int .i64 I, .int .i64 B] 28) = W at *
  obtain ⟨s0, s1, s2⟩ := Sb.cells T.out.slo
  have hls := Ob.lt T.out.slo
  go_wp2_with (first | (refine wpList_load_rowW rfl 23 (.tmp 4) rfl w.heap.size rfl 23 s.c (0, 0) _ T.out.slo Tryd.underlying23 rfl (by kernel_rfl) ?_) | (refine wpList_load_rowW rfl 26 (.tmp 5) rfl (w.heap.size + 1) rfl 26 d.c (0, 0) _ T.out.blk Tryd.underlying26 rfl (Dbl.infoT HL.out) ?_) | (refine wpList_load_rowW rfl 28 (.tmp 7) rfl (w.heap.size + 1 + 1) rfl 28 #[.int .i64 P, .int .i64 I, .int .i64 B] (0, 0) _ T.out.geo Tryd.underlying28 rfl (by kernel_rfl) ?_))
  refine (HLO.out _).mono ?_
  rintro e w1 ⟨rfl, hb⟩
  replace T := Lib.hid (T.out.on' hb)
  replace RM := Lib.hid (RM.out.below hb)
  clear hb s0 s1 s2 hls hd HLO
  go_wp2_with (first | (refine wpList_load_rowW rfl 23 (.tmp 4) rfl w.heap.size rfl 23 s.c (0, 0) _ T.out.slo Tryd.underlying23 rfl (by kernel_rfl) ?_) | (refine wpList_load_rowW rfl 26 (.tmp 5) rfl (w.heap.size + 1) rfl 26 d.c (0, 0) _ T.out.blk Tryd.underlying26 rfl (Dbl.infoT HL.out) ?_) | (refine wpList_load_rowW rfl 28 (.tmp 7) rfl (w.heap.size + 1 + 1) rfl 28 #[.int .i64 P, .int .i64 I, .int .i64 B] (0, 0) _ T.out.geo Tryd.underlying28 rfl (by kernel_rfl) ?_))
  clear hd2
  refine (HEN.out _ (HT.out.below T.out.on)).mono ?_
  rintro e w2 ⟨A1, c1, n1, x1, rfl, hb, G1, R1⟩
  replace T := Lib.hid (T.out.on' hb)
  replace RM := Lib.hid (RM.out.below hb)
  clear hb HEN
  cases m1 with
  | true =>
    obtain ⟨rfl, rfl⟩ := G1.out.1 rfl
    have hr1 := Lib.hid (R1 rfl)
    have hc1 := G1.out.2.2
    clear R1 G1
    go_wp2_with (first | (refine wpList_load_rowW rfl 23 (.tmp 4) rfl w.heap.size rfl 23 s.c (0, 0) _ T.out.slo Tryd.underlying23 rfl (by kernel_rfl) ?_) | (refine wpList_load_rowW rfl 26 (.tmp 5) rfl (w.heap.size + 1) rfl 26 d.c (0, 0) _ T.out.blk Tryd.underlying26 rfl (Dbl.infoT HL.out) ?_) | (refine wpList_load_rowW rfl 28 (.tmp 7) rfl (w.heap.size + 1 + 1) rfl 28 #[.int .i64 P, .int .i64 I, .int .i64 B] (0, 0) _ T.out.geo Tryd.underlying28 rfl (by kernel_rfl) ?_))
    refine (HDE.out (by trivial) A1 c1 _ hr1.out hc1 (HT.out.below T.out.on)).mono ?_
    rintro e v1 ⟨rfl, hb⟩
    replace hb := hb.trans (on_alloc v1 (.cells s.c 23))
    have Y := Lib.hid (show Sb _ _ s from Ob.new v1 (.cells s.c 23))
    replace T := Lib.hid (T.out.on' hb)
    replace RM := Lib.hid (RM.out.below hb)
    clear hb hr1 hc1
    go_upto_region 6 with (fail)
    generalize v1.alloc (.cells s.c 23) = V1 at *
    generalize v1.heap.size = y1 at *
    clear v1
    have hq := HEQ.out
    go_wp2_with (first | (refine wpList_load_rowW rfl 23 (.tmp 11) rfl y1 rfl 23 s.c (0, 0) _ Y.out Tryd.underlying23 rfl (by kernel_rfl) ?_) | (refine wpList_load_rowW rfl 23 (.tmp 4) rfl w.heap.size rfl 23 s.c (0, 0) _ T.out.slo Tryd.underlying23 rfl (by kernel_rfl) ?_) | (refine wpList_load_rowW rfl 28 (.tmp 7) rfl (w.heap.size + 1 + 1) rfl 28 #[.int .i64 P, .int .i64 I, .int .i64 B] (0, 0) _ T.out.geo Tryd.underlying28 rfl (by kernel_rfl) ?_))
    clear hq
    refine (HEM.out _).mono ?_
    rintro e V2 ⟨rfl, hb⟩
    replace T := Lib.hid (T.out.on' hb)
    replace RM := Lib.hid (RM.out.below hb)
    clear hb Y
    go_wp2_with (first | (refine wpList_load_rowW rfl 23 (.tmp 4) rfl w.heap.size rfl 23 s.c (0, 0) _ T.out.slo Tryd.underlying23 rfl (by kernel_rfl) ?_) | (refine wpList_load_rowW rfl 26 (.tmp 5) rfl (w.heap.size + 1) rfl 26 d.c (0, 0) _ T.out.blk Tryd.underlying26 rfl (Dbl.infoT HL.out) ?_) | (refine wpList_load_rowW rfl 28 (.tmp 7) rfl (w.heap.size + 1 + 1) rfl 28 #[.int .i64 P, .int .i64 I, .int .i64 B] (0, 0) _ T.out.geo Tryd.underlying28 rfl (by kernel_rfl) ?_))
    refine (HBL.out _ (HT.out.below T.out.on)).mono ?_
    rintro e v3 ⟨A3, c3, n3, x3, rfl, hb, G3, R3⟩
    replace T := Lib.hid (T.out.on' hb)
    replace RM := Lib.hid (RM.out.below hb)
    clear hb
    cases m3 with
    | true =>
      obtain ⟨rfl, rfl⟩ := G3.out.1 rfl
      have hr3 := Lib.hid (R3 rfl)
      have hc3 := G3.out.2.2
      clear R3 G3
      go_wp2_with (first | (refine wpList_load_rowW rfl 23 (.tmp 4) rfl w.heap.size rfl 23 s.c (0, 0) _ T.out.slo Tryd.underlying23 rfl (by kernel_rfl) ?_) | (refine wpList_load_rowW rfl 26 (.tmp 5) rfl (w.heap.size + 1) rfl 26 d.c (0, 0) _ T.out.blk Tryd.underlying26 rfl (Dbl.infoT HL.out) ?_) | (refine wpList_load_rowW rfl 28 (.tmp 7) rfl (w.heap.size + 1 + 1) rfl 28 #[.int .i64 P, .int .i64 I, .int .i64 B] (0, 0) _ T.out.geo Tryd.underlying28 rfl (by kernel_rfl) ?_))
      refine (HRD.out (by trivial) A3 c3 _ hr3.out hc3 (HT.out.below T.out.on) (HE.out.below T.out.on)).mono ?_
      rintro e v4 ⟨rfl, hb⟩
      have S4 := Db.stored (w := v4) (d := d)
      replace hb := hb.trans S4.2
      have D4 := Lib.hid (show Db _ v4.heap.size d from S4.1)
      replace T := Lib.hid (T.out.on' hb)
      replace RM := Lib.hid (RM.out.below hb)
      clear hb S4 hr3 hc3
      go_upto_region 11 with (refine wpList_store_row rfl 26 (.tmp 13) (.tmp 70) rfl v4.heap.size d.c rfl rfl 26 _ (heap_alloc_new _ _) (Dbl.infoT HL.out) (by rw [Dbl.size HL.out]; rfl) (Dbl.one _) ?_)
      generalize (v4.alloc (.cells #[.int .i64 0, .int .i64 0, .int .u8 0, .string ⟨#[]⟩, .int .i64 0, .int .u8 0, .string ⟨#[]⟩, .int .i64 0, .int .u8 0, .string ⟨#[]⟩, .int .i64 0, .int .u8 0, .string ⟨#[]⟩, .int .i64 0, .int .u8 0, .string ⟨#[]⟩, .int .i64 0, .int .u8 0, .string ⟨#[]⟩, .int .i64 0, .int .u8 0, .string ⟨#[]⟩, .int .i64 0, .int .u8 0, .string ⟨#[]⟩, .int .i64 0, .int .u8 0, .string ⟨#[]⟩, .int .i64 0, .int .u8 0, .string ⟨#[]⟩] 26)).setRow v4.heap.size d.c = V4 at *
      generalize v4.heap.size = b4 at *
      clear v4
      have hq := HED.out
      go_upto_region 13 with (first | (refine wpList_load_rowW rfl 26 (.tmp 13) rfl b4 rfl 26 d.c (0, 0) _ D4.out Tryd.underlying26 rfl (Dbl.infoT HL.out) ?_) | (refine wpList_load_rowW rfl 26 (.tmp 5) rfl (w.heap.size + 1) rfl 26 d.c (0, 0) _ T.out.blk Tryd.underlying26 rfl (Dbl.infoT HL.out) ?_))
      clear hq D4
      refine wp_region6 26 dd.c (fun k => decide (k < 6) || decide (k = 7)) (fun k => decide (k = 8)) 8 [.val (.slice C m.length cm), .row m, .val (gv P I B), .val (.tuple #[dd.v, ed]), .val (.tuple #[dd.v, ed]), .val dd.v, .val ed, .var, .done 7, .val ed]
        (by kernel_rfl) (by kernel_rfl) (by kernel_rfl) (by kernel_rfl) (by kernel_rfl) (by kernel_rfl) ?steps13 ?rest13
      case steps13 =>
        refine ⟨?t0, ?t1, ?t2, ?t3, ?t4, ?t5, ?t6, ?t7, ?t8, ?t9, trivial⟩
        case t0 =>
          exact st6_val _ 80 rfl rfl rfl rfl fun a u hb hA hd => by
            have q0 := ev_of (show a.eval (.tmp 2) = .slice C m.length cm from hA.eval 2 rfl)
            unfold execOp
            simp [go_sem, q0]
        case t1 =>
          exact st6_clone m 81 rfl rfl rfl rfl (.const (.slice none 0 0)) (.tmp 80) rfl C cm (by have := HLM.out; omega) rfl fun a u hb hA hd => ⟨rfl, hd 0 80 rfl rfl _ rfl, RM.out.below hb⟩
        case t2 =>
          exact st6_val _ 82 rfl rfl rfl rfl fun a u hb hA hd => run_loadG rfl (w.heap.size + 1 + 1) _ _ _ (hA.eval 7 rfl) (Ob.on T.out.geo hb)
        case t3 =>
          refine st6_rcall _ 83 rfl rfl rfl rfl rfl 1 81 m rfl rfl rfl 22 (fun r => #[r, gv P I B]) fun a u A c hb hA hd hv hc hr => ⟨?_, HRM.out A c u hr hc (HT.out.below (T.out.on.trans hb)) (HE.out.below (T.out.on.trans hb))⟩
          have q0 := ev_of (hd 2 82 rfl rfl _ rfl)
          unfold execOp
          have hv := ev_of hv
          simp [go_sem, q0, hv]
        case t4 =>
          exact st6_val _ 79 rfl rfl rfl rfl fun a u hb hA hd => by
            have q0 := ev_of (hd 3 83 rfl rfl _ rfl)
            unfold execOp
            simp [go_sem, q0]
        case t5 =>
          exact st6_val _ 84 rfl rfl rfl rfl fun a u hb hA hd => by
            have q0 := ev_of (hd 4 79 rfl rfl _ rfl)
            unfold execOp
            simp [go_sem, q0, Instr.extract]
        case t6 =>
          exact st6_val _ 85 rfl rfl rfl rfl fun a u hb hA hd => by
            have q0 := ev_of (hd 4 79 rfl rfl _ rfl)
            unfold execOp
            simp [go_sem, q0, Instr.extract]
        case t7 =>
          exact st6_var 15 rfl rfl rfl rfl #[.int .i64 0, .int .i64 0, .int .u8 0, .string ⟨#[]⟩, .int .i64 0, .int .u8 0, .string ⟨#[]⟩, .int .i64 0, .int .u8 0, .string ⟨#[]⟩, .int .i64 0, .int .u8 0, .string ⟨#[]⟩, .int .i64 0, .int .u8 0, .string ⟨#[]⟩, .int .i64 0, .int .u8 0, .string ⟨#[]⟩, .int .i64 0, .int .u8 0, .string ⟨#[]⟩, .int .i64 0, .int .u8 0, .string ⟨#[]⟩, .int .i64 0, .int .u8 0, .string ⟨#[]⟩, .int .i64 0, .int .u8 0, .string ⟨#[]⟩] (Dbl.size HDL.out).symm fun a u => by unfold execOp; kernel_rfl
        case t8 =>
          exact st6_store 7 5 15 84 rfl rfl rfl rfl (by decide) (Dbl.one _) (Dbl.infoT HDL.out) rfl rfl rfl rfl rfl rfl
        case t9 =>
          exact st6_val _ 16 rfl rfl rfl rfl fun a u hb hA hd => by
            have q0 := ev_of (hd 6 85 rfl rfl _ rfl)
            unfold execOp
            simp [go_sem, q0]
      case rest13 =>
        intro vs u hb hR
        have e9 := hR 9 (by decide)
        replace e9 : vs 9 = ed := e9
        obtain ⟨gx, e7, hgx, hx⟩ := hR 8 (by decide)
        replace hx : Db u gx dd := hx
        have X := Lib.hid hx
        replace T := Lib.hid (T.out.on' hb)
        replace RM := Lib.hid (RM.out.below hb)
        simp only [putsFrom, Act.put, List.setIfInBounds_toArray, List.set_cons_succ, List.set_cons_zero, e7, e9]
        generalize vs 0 = z0
        generalize vs 1 = z1
        generalize vs 2 = z2
        generalize vs 3 = z3
        generalize vs 4 = z4
        generalize vs 5 = z5
        generalize vs 6 = z6
        generalize vs 8 = z8
        clear hR e7 e9 hb hx hgx
        rcases hway.out with ⟨hedd, hbm⟩ | ⟨⟨k, n, hedd⟩, hzd⟩
        · have HBM := Lib.hid hbm
          subst hedd
          clear hway hbm
          go_wp2_with (first | (refine wpList_load_rowW rfl 26 (.tmp 15) rfl gx rfl 26 dd.c (0, 0) _ X.out Tryd.underlying26 rfl (Dbl.infoT HDL.out) ?_) | (refine wpList_load_rowW rfl 28 (.tmp 7) rfl (w.heap.size + 1 + 1) rfl 28 #[.int .i64 P, .int .i64 I, .int .i64 B] (0, 0) _ T.out.geo Tryd.underlying28 rfl (by kernel_rfl) ?_))
          refine (HBM.out _ (HT.out.below T.out.on)).mono ?_
          rintro e u2 ⟨A5, c5, n5, x5, rfl, hb, G5, R5⟩
          obtain ⟨rfl, rfl⟩ := G5.out.1 rfl
          replace T := Lib.hid (T.out.on' hb)
          have hS := same_calls A5 C m m c5 cm u2 (R5 rfl) (RM.out.below hb) (by have := HLM.out; omega) (by have := HLM.out; omega)
          rw [sameV_self] at hS
          have HS := Lib.hid hS
          clear hS hb R5 G5 RM X
          go_wp2_with (fail)
          refine HS.out.mono ?_
          rintro e u3 ⟨rfl, m3', rfl⟩
          have b3 := T.out.on.trans (on_drewN u2 m3')
          clear HS T
          go_wp2_with (fail)
          refine (alive_calls _ (HT.out.below b3) (HE.out.below b3)).mono ?_
          rintro e u4 ⟨rfl, hb⟩
          have b4 := b3.trans hb
          clear b3 hb
          go_wp2_with (fail)
          go_ret
          exact ⟨rfl, b4⟩
        · subst hedd
          subst hzd
          have hq := HZD.out
          clear hway
          go_wp2_with (first | (refine wpList_load_rowW rfl 26 (.tmp 15) rfl gx rfl 26 zD.c (0, 0) _ X.out Tryd.underlying26 rfl (Dbl.infoT HDL.out) ?_))
          clear hq
          refine (alive_calls _ (HT.out.below T.out.on) (HE.out.below T.out.on)).mono ?_
          rintro e u4 ⟨rfl, hb⟩
          have b4 := T.out.on.trans hb
          clear hb
          go_wp2_with (fail)
          go_ret
          exact ⟨rfl, b4⟩
    | false =>
      obtain ⟨rfl, rfl⟩ := G3.out.2.1 rfl
      clear R3 G3
      go_upto_region 13 with (fail)
      refine wp_region6 26 dd.c (fun k => decide (k < 6) || decide (k = 7)) (fun k => decide (k = 8)) 8 [.val (.slice C m.length cm), .row m, .val (gv P I B), .val (.tuple #[dd.v, ed]), .val (.tuple #[dd.v, ed]), .val dd.v, .val ed, .var, .done 7, .val ed]
        (by kernel_rfl) (by kernel_rfl) (by kernel_rfl) (by kernel_rfl) (by kernel_rfl) (by kernel_rfl) ?steps13 ?rest13
      case steps13 =>
        refine ⟨?t0, ?t1, ?t2, ?t3, ?t4, ?t5, ?t6, ?t7, ?t8, ?t9, trivial⟩
        case t0 =>
          exact st6_val _ 80 rfl rfl rfl rfl fun a u hb hA hd => by
            have q0 := ev_of (show a.eval (.tmp 2) = .slice C m.length cm from hA.eval 2 rfl)
            unfold execOp
            simp [go_sem, q0]
        case t1 =>
          exact st6_clone m 81 rfl rfl rfl rfl (.const (.slice none 0 0)) (.tmp 80) rfl C cm (by have := HLM.out; omega) rfl fun a u hb hA hd => ⟨rfl, hd 0 80 rfl rfl _ rfl, RM.out.below hb⟩
        case t2 =>
          exact st6_val _ 82 rfl rfl rfl rfl fun a u hb hA hd => run_loadG rfl (w.heap.size + 1 + 1) _ _ _ (hA.eval 7 rfl) (Ob.on T.out.geo hb)
        case t3 =>
          refine st6_rcall _ 83 rfl rfl rfl rfl rfl 1 81 m rfl rfl rfl 22 (fun r => #[r, gv P I B]) fun a u A c hb hA hd hv hc hr => ⟨?_, HRM.out A c u hr hc (HT.out.below (T.out.on.trans hb)) (HE.out.below (T.out.on.trans hb))⟩
          have q0 := ev_of (hd 2 82 rfl rfl _ rfl)
          unfold execOp
          have hv := ev_of hv
          simp [go_sem, q0, hv]
        case t4 =>
          exact st6_val _ 79 rfl rfl rfl rfl fun a u hb hA hd => by
            have q0 := ev_of (hd 3 83 rfl rfl _ rfl)
            unfold execOp
            simp [go_sem, q0]
        case t5 =>
          exact st6_val _ 84 rfl rfl rfl rfl fun a u hb hA hd => by
            have q0 := ev_of (hd 4 79 rfl rfl _ rfl)
            unfold execOp
            simp [go_sem, q0, Instr.extract]
        case t6 =>
          exact st6_val _ 85 rfl rfl rfl rfl fun a u hb hA hd => by
            have q0 := ev_of (hd 4 79 rfl rfl _ rfl)
            unfold execOp
            simp [go_sem, q0, Instr.extract]
        case t7 =>
          exact st6_var 15 rfl rfl rfl rfl #[.int .i64 0, .int .i64 0, .int .u8 0, .string ⟨#[]⟩, .int .i64 0, .int .u8 0, .string ⟨#[]⟩, .int .i64 0, .int .u8 0, .string ⟨#[]⟩, .int .i64 0, .int .u8 0, .string ⟨#[]⟩, .int .i64 0, .int .u8 0, .string ⟨#[]⟩, .int .i64 0, .int .u8 0, .string ⟨#[]⟩, .int .i64 0, .int .u8 0, .string ⟨#[]⟩, .int .i64 0, .int .u8 0, .string ⟨#[]⟩, .int .i64 0, .int .u8 0, .string ⟨#[]⟩, .int .i64 0, .int .u8 0, .string ⟨#[]⟩] (Dbl.size HDL.out).symm fun a u => by unfold execOp; kernel_rfl
        case t8 =>
          exact st6_store 7 5 15 84 rfl rfl rfl rfl (by decide) (Dbl.one _) (Dbl.infoT HDL.out) rfl rfl rfl rfl rfl rfl
        case t9 =>
          exact st6_val _ 16 rfl rfl rfl rfl fun a u hb hA hd => by
            have q0 := ev_of (hd 6 85 rfl rfl _ rfl)
            unfold execOp
            simp [go_sem, q0]
      case rest13 =>
        intro vs u hb hR
        have e9 := hR 9 (by decide)
        replace e9 : vs 9 = ed := e9
        obtain ⟨gx, e7, hgx, hx⟩ := hR 8 (by decide)
        replace hx : Db u gx dd := hx
        have X := Lib.hid hx
        replace T := Lib.hid (T.out.on' hb)
        replace RM := Lib.hid (RM.out.below hb)
        simp only [putsFrom, Act.put, List.setIfInBounds_toArray, List.set_cons_succ, List.set_cons_zero, e7, e9]
        generalize vs 0 = z0
        generalize vs 1 = z1
        generalize vs 2 = z2
        generalize vs 3 = z3
        generalize vs 4 = z4
        generalize vs 5 = z5
        generalize vs 6 = z6
        generalize vs 8 = z8
        clear hR e7 e9 hb hx hgx
        rcases hway.out with ⟨hedd, hbm⟩ | ⟨⟨k, n, hedd⟩, hzd⟩
        · have HBM := Lib.hid hbm
          subst hedd
          clear hway hbm
          go_wp2_with (first | (refine wpList_load_rowW rfl 26 (.tmp 15) rfl gx rfl 26 dd.c (0, 0) _ X.out Tryd.underlying26 rfl (Dbl.infoT HDL.out) ?_) | (refine wpList_load_rowW rfl 28 (.tmp 7) rfl (w.heap.size + 1 + 1) rfl 28 #[.int .i64 P, .int .i64 I, .int .i64 B] (0, 0) _ T.out.geo Tryd.underlying28 rfl (by kernel_rfl) ?_))
          refine (HBM.out _ (HT.out.below T.out.on)).mono ?_
          rintro e u2 ⟨A5, c5, n5, x5, rfl, hb, G5, R5⟩
          obtain ⟨rfl, rfl⟩ := G5.out.1 rfl
          replace T := Lib.hid (T.out.on' hb)
          have hS := same_calls A5 C m m c5 cm u2 (R5 rfl) (RM.out.below hb) (by have := HLM.out; omega) (by have := HLM.out; omega)
          rw [sameV_self] at hS
          have HS := Lib.hid hS
          clear hS hb R5 G5 RM X
          go_wp2_with (fail)
          refine HS.out.mono ?_
          rintro e u3 ⟨rfl, m3', rfl⟩
          have b3 := T.out.on.trans (on_drewN u2 m3')
          clear HS T
          go_wp2_with (fail)
          refine (alive_calls _ (HT.out.below b3) (HE.out.below b3)).mono ?_
          rintro e u4 ⟨rfl, hb⟩
          have b4 := b3.trans hb
          clear b3 hb
          go_wp2_with (fail)
          go_ret
          exact ⟨rfl, b4⟩
        · subst hedd
          subst hzd
          have hq := HZD.out
          clear hway
          go_wp2_with (first | (refine wpList_load_rowW rfl 26 (.tmp 15) rfl gx rfl 26 zD.c (0, 0) _ X.out Tryd.underlying26 rfl (Dbl.infoT HDL.out) ?_))
          clear hq
          refine (alive_calls _ (HT.out.below T.out.on) (HE.out.below T.out.on)).mono ?_
          rintro e u4 ⟨rfl, hb⟩
          have b4 := T.out.on.trans hb
          clear hb
          go_wp2_with (fail)
          go_ret
          exact ⟨rfl, b4⟩
  | false =>
    obtain ⟨rfl, rfl⟩ := G1.out.2.1 rfl
    clear R1 G1
    go_wp2_with (first | (refine wpList_load_rowW rfl 23 (.tmp 4) rfl w.heap.size rfl 23 s.c (0, 0) _ T.out.slo Tryd.underlying23 rfl (by kernel_rfl) ?_) | (refine wpList_load_rowW rfl 26 (.tmp 5) rfl (w.heap.size + 1) rfl 26 d.c (0, 0) _ T.out.blk Tryd.underlying26 rfl (Dbl.infoT HL.out) ?_) | (refine wpList_load_rowW rfl 28 (.tmp 7) rfl (w.heap.size + 1 + 1) rfl 28 #[.int .i64 P, .int .i64 I, .int .i64 B] (0, 0) _ T.out.geo Tryd.underlying28 rfl (by kernel_rfl) ?_))
    refine (HBL.out _ (HT.out.below T.out.on)).mono ?_
    rintro e v3 ⟨A3, c3, n3, x3, rfl, hb, G3, R3⟩
    replace T := Lib.hid (T.out.on' hb)
    replace RM := Lib.hid (RM.out.below hb)
    clear hb
    cases m3 with
    | true =>
      obtain ⟨rfl, rfl⟩ := G3.out.1 rfl
      have hr3 := Lib.hid (R3 rfl)
      have hc3 := G3.out.2.2
      clear R3 G3
      go_wp2_with (first | (refine wpList_load_rowW rfl 23 (.tmp 4) rfl w.heap.size rfl 23 s.c (0, 0) _ T.out.slo Tryd.underlying23 rfl (by kernel_rfl) ?_) | (refine wpList_load_rowW rfl 26 (.tmp 5) rfl (w.heap.size + 1) rfl 26 d.c (0, 0) _ T.out.blk Tryd.underlying26 rfl (Dbl.infoT HL.out) ?_) | (refine wpList_load_rowW rfl 28 (.tmp 7) rfl (w.heap.size + 1 + 1) rfl 28 #[.int .i64 P, .int .i64 I, .int .i64 B] (0, 0) _ T.out.geo Tryd.underlying28 rfl (by kernel_rfl) ?_))
      refine (HRD.out (by trivial) A3 c3 _ hr3.out hc3 (HT.out.below T.out.on) (HE.out.below T.out.on)).mono ?_
      rintro e v4 ⟨rfl, hb⟩
      have S4 := Db.stored (w := v4) (d := d)
      replace hb := hb.trans S4.2
      have D4 := Lib.hid (show Db _ v4.heap.size d from S4.1)
      replace T := Lib.hid (T.out.on' hb)
      replace RM := Lib.hid (RM.out.below hb)
      clear hb S4 hr3 hc3
      go_upto_region 11 with (refine wpList_store_row rfl 26 (.tmp 13) (.tmp 70) rfl v4.heap.size d.c rfl rfl 26 _ (heap_alloc_new _ _) (Dbl.infoT HL.out) (by rw [Dbl.size HL.out]; rfl) (Dbl.one _) ?_)
      generalize (v4.alloc (.cells #[.int .i64 0, .int .i64 0, .int .u8 0, .string ⟨#[]⟩, .int .i64 0, .int .u8 0, .string ⟨#[]⟩, .int .i64 0, .int .u8 0, .string ⟨#[]⟩, .int .i64 0, .int .u8 0, .string ⟨#[]⟩, .int .i64 0, .int .u8 0, .string ⟨#[]⟩, .int .i64 0, .int .u8 0, .string ⟨#[]⟩, .int .i64 0, .int .u8 0, .string ⟨#[]⟩, .int .i64 0, .int .u8 0, .string ⟨#[]⟩, .int .i64 0, .int .u8 0, .string ⟨#[]⟩, .int .i64 0, .int .u8 0, .string ⟨#[]⟩] 26)).setRow v4.heap.size d.c = V4 at *
      generalize v4.heap.size = b4 at *
      clear v4
      have hq := HED.out
      go_upto_region 13 with (first | (refine wpList_load_rowW rfl 26 (.tmp 13) rfl b4 rfl 26 d.c (0, 0) _ D4.out Tryd.underlying26 rfl (Dbl.infoT HL.out) ?_) | (refine wpList_load_rowW rfl 26 (.tmp 5) rfl (w.heap.size + 1) rfl 26 d.c (0, 0) _ T.out.blk Tryd.underlying26 rfl (Dbl.infoT HL.out) ?_))
      clear hq D4
      refine wp_region6 26 dd.c (fun k => decide (k < 6) || decide (k = 7)) (fun k => decide (k = 8)) 8 [.val (.slice C m.length cm), .row m, .val (gv P I B), .val (.tuple #[dd.v, ed]), .val (.tuple #[dd.v, ed]), .val dd.v, .val ed, .var, .done 7, .val ed]
        (by kernel_rfl) (by kernel_rfl) (by kernel_rfl) (by kernel_rfl) (by kernel_rfl) (by kernel_rfl) ?steps13 ?rest13
      case steps13 =>
        refine ⟨?t0, ?t1, ?t2, ?t3, ?t4, ?t5, ?t6, ?t7, ?t8, ?t9, trivial⟩
        case t0 =>
          exact st6_val _ 80 rfl rfl rfl rfl fun a u hb hA hd => by
            have q0 := ev_of (show a.eval (.tmp 2) = .slice C m.length cm from hA.eval 2 rfl)
            unfold execOp
            simp [go_sem, q0]
        case t1 =>
          exact st6_clone m 81 rfl rfl rfl rfl (.const (.slice none 0 0)) (.tmp 80) rfl C cm (by have := HLM.out; omega) rfl fun a u hb hA hd => ⟨rfl, hd 0 80 rfl rfl _ rfl, RM.out.below hb⟩
        case t2 =>
          exact st6_val _ 82 rfl rfl rfl rfl fun a u hb hA hd => run_loadG rfl (w.heap.size + 1 + 1) _ _ _ (hA.eval 7 rfl) (Ob.on T.out.geo hb)
        case t3 =>
          refine st6_rcall _ 83 rfl rfl rfl rfl rfl 1 81 m rfl rfl rfl 22 (fun r => #[r, gv P I B]) fun a u A c hb hA hd hv hc hr => ⟨?_, HRM.out A c u hr hc (HT.out.below (T.out.on.trans hb)) (HE.out.below (T.out.on.trans hb))⟩
          have q0 := ev_of (hd 2 82 rfl rfl _ rfl)
          unfold execOp
          have hv := ev_of hv
          simp [go_sem, q0, hv]
        case t4 =>
          exact st6_val _ 79 rfl rfl rfl rfl fun a u hb hA hd => by
            have q0 := ev_of (hd 3 83 rfl rfl _ rfl)
            unfold execOp
            simp [go_sem, q0]
        case t5 =>
          exact st6_val _ 84 rfl rfl rfl rfl fun a u hb hA hd => by
            have q0 := ev_of (hd 4 79 rfl rfl _ rfl)
            unfold execOp
            simp [go_sem, q0, Instr.extract]
        case t6 =>
          exact st6_val _ 85 rfl rfl rfl rfl fun a u hb hA hd => by
            have q0 := ev_of (hd 4 79 rfl rfl _ rfl)
            unfold execOp
            simp [go_sem, q0, Instr.extract]
        case t7 =>
          exact st6_var 15 rfl rfl rfl rfl #[.int .i64 0, .int .i64 0, .int .u8 0, .string ⟨#[]⟩, .int .i64 0, .int .u8 0, .string ⟨#[]⟩, .int .i64 0, .int .u8 0, .string ⟨#[]⟩, .int .i64 0, .int .u8 0, .string ⟨#[]⟩, .int .i64 0, .int .u8 0, .string ⟨#[]⟩, .int .i64 0, .int .u8 0, .string ⟨#[]⟩, .int .i64 0, .int .u8 0, .string ⟨#[]⟩, .int .i64 0, .int .u8 0, .string ⟨#[]⟩, .int .i64 0, .int .u8 0, .string ⟨#[]⟩, .int .i64 0, .int .u8 0, .string ⟨#[]⟩] (Dbl.size HDL.out).symm fun a u => by unfold execOp; kernel_rfl
        case t8 =>
          exact st6_store 7 5 15 84 rfl rfl rfl rfl (by decide) (Dbl.one _) (Dbl.infoT HDL.out) rfl rfl rfl rfl rfl rfl
        case t9 =>
          exact st6_val _ 16 rfl rfl rfl rfl fun a u hb hA hd => by
            have q0 := ev_of (hd 6 85 rfl rfl _ rfl)
            unfold execOp
            simp [go_sem, q0]
      case rest13 =>
        intro vs u hb hR
        have e9 := hR 9 (by decide)
        replace e9 : vs 9 = ed := e9
        obtain ⟨gx, e7, hgx, hx⟩ := hR 8 (by decide)
        replace hx : Db u gx dd := hx
        have X := Lib.hid hx
        replace T := Lib.hid (T.out.on' hb)
        replace RM := Lib.hid (RM.out.below hb)
        simp only [putsFrom, Act.put, List.setIfInBounds_toArray, List.set_cons_succ, List.set_cons_zero, e7, e9]
        generalize vs 0 = z0
        generalize vs 1 = z1
        generalize vs 2 = z2
        generalize vs 3 = z3
        generalize vs 4 = z4
        generalize vs 5 = z5
        generalize vs 6 = z6
        generalize vs 8 = z8
        clear hR e7 e9 hb hx hgx
        rcases hway.out with ⟨hedd, hbm⟩ | ⟨⟨k, n, hedd⟩, hzd⟩
        · have HBM := Lib.hid hbm
          subst hedd
          clear hway hbm
          go_wp2_with (first | (refine wpList_load_rowW rfl 26 (.tmp 15) rfl gx rfl 26 dd.c (0, 0) _ X.out Tryd.underlying26 rfl (Dbl.infoT HDL.out) ?_) | (refine wpList_load_rowW rfl 28 (.tmp 7) rfl (w.heap.size + 1 + 1) rfl 28 #[.int .i64 P, .int .i64 I, .int .i64 B] (0, 0) _ T.out.geo Tryd.underlying28 rfl (by kernel_rfl) ?_))
          refine (HBM.out _ (HT.out.below T.out.on)).mono ?_
          rintro e u2 ⟨A5, c5, n5, x5, rfl, hb, G5, R5⟩
          obtain ⟨rfl, rfl⟩ := G5.out.1 rfl
          replace T := Lib.hid (T.out.on' hb)
          have hS := same_calls A5 C m m c5 cm u2 (R5 rfl) (RM.out.below hb) (by have := HLM.out; omega) (by have := HLM.out; omega)
          rw [sameV_self] at hS
          have HS := Lib.hid hS
          clear hS hb R5 G5 RM X
          go_wp2_with (fail)
          refine HS.out.mono ?_
          rintro e u3 ⟨rfl, m3', rfl⟩
          have b3 := T.out.on.trans (on_drewN u2 m3')
          clear HS T
          go_wp2_with (fail)
          refine (alive_calls _ (HT.out.below b3) (HE.out.below b3)).mono ?_
          rintro e u4 ⟨rfl, hb⟩
          have b4 := b3.trans hb
          clear b3 hb
          go_wp2_with (fail)
          go_ret
          exact ⟨rfl, b4⟩
        · subst hedd
          subst hzd
          have hq := HZD.out
          clear hway
          go_wp2_with (first | (refine wpList_load_rowW rfl 26 (.tmp 15) rfl gx rfl 26 zD.c (0, 0) _ X.out Tryd.underlying26 rfl (Dbl.infoT HDL.out) ?_))
          clear hq
          refine (alive_calls _ (HT.out.below T.out.on) (HE.out.below T.out.on)).mono ?_
          rintro e u4 ⟨rfl, hb⟩
          have b4 := T.out.on.trans hb
          clear hb
          go_wp2_with (fail)
          go_ret
          exact ⟨rfl, b4⟩
    | false =>
      obtain ⟨rfl, rfl⟩ := G3.out.2.1 rfl
      clear R3 G3
      go_upto_region 13 with (fail)
      refine wp_region6 26 dd.c (fun k => decide (k < 6) || decide (k = 7)) (fun k => decide (k = 8)) 8 [.val (.slice C m.length cm), .row m, .val (gv P I B), .val (.tuple #[dd.v, ed]), .val (.tuple #[dd.v, ed]), .val dd.v, .val ed, .var, .done 7, .val ed]
        (by kernel_rfl) (by kernel_rfl) (by kernel_rfl) (by kernel_rfl) (by kernel_rfl) (by kernel_rfl) ?steps13 ?rest13
      case steps13 =>
        refine ⟨?t0, ?t1, ?t2, ?t3, ?t4, ?t5, ?t6, ?t7, ?t8, ?t9, trivial⟩
        case t0 =>
          exact st6_val _ 80 rfl rfl rfl rfl fun a u hb hA hd => by
            have q0 := ev_of (show a.eval (.tmp 2) = .slice C m.length cm from hA.eval 2 rfl)
            unfold execOp
            simp [go_sem, q0]
        case t1 =>
          exact st6_clone m 81 rfl rfl rfl rfl (.const (.slice none 0 0)) (.tmp 80) rfl C cm (by have := HLM.out; omega) rfl fun a u hb hA hd => ⟨rfl, hd 0 80 rfl rfl _ rfl, RM.out.below hb⟩
        case t2 =>
          exact st6_val _ 82 rfl rfl rfl rfl fun a u hb hA hd => run_loadG rfl (w.heap.size + 1 + 1) _ _ _ (hA.eval 7 rfl) (Ob.on T.out.geo hb)
        case t3 =>
          refine st6_rcall _ 83 rfl rfl rfl rfl rfl 1 81 m rfl rfl rfl 22 (fun r => #[r, gv P I B]) fun a u A c hb hA hd hv hc hr => ⟨?_, HRM.out A c u hr hc (HT.out.below (T.out.on.trans hb)) (HE.out.below (T.out.on.trans hb))⟩
          have q0 := ev_of (hd 2 82 rfl rfl _ rfl)
          unfold execOp
          have hv := ev_of hv
          simp [go_sem, q0, hv]
        case t4 =>
          exact st6_val _ 79 rfl rfl rfl rfl fun a u hb hA hd => by
            have q0 := ev_of (hd 3 83 rfl rfl _ rfl)
            unfold execOp
            simp [go_sem, q0]
        case t5 =>
          exact st6_val _ 84 rfl rfl rfl rfl fun a u hb hA hd => by
            have q0 := ev_of (hd 4 79 rfl rfl _ rfl)
            unfold execOp
            simp [go_sem, q0, Instr.extract]
        case t6 =>
          exact st6_val _ 85 rfl rfl rfl rfl fun a u hb hA hd => by
            have q0 := ev_of (hd 4 79 rfl rfl _ rfl)
            unfold execOp
            simp [go_sem, q0, Instr.extract]
        case t7 =>
          exact st6_var 15 rfl rfl rfl rfl #[.int .i64 0, .int .i64 0, .int .u8 0, .string ⟨#[]⟩, .int .i64 0, .int .u8 0, .string ⟨#[]⟩, .int .i64 0, .int .u8 0, .string ⟨#[]⟩, .int .i64 0, .int .u8 0, .string ⟨#[]⟩, .int .i64 0, .int .u8 0, .string ⟨#[]⟩, .int .i64 0, .int .u8 0, .string ⟨#[]⟩, .int .i64 0, .int .u8 0, .string ⟨#[]⟩, .int .i64 0, .int .u8 0, .string ⟨#[]⟩, .int .i64 0, .int .u8 0, .string ⟨#[]⟩, .int .i64 0, .int .u8 0, .string ⟨#[]⟩] (Dbl.size HDL.out).symm fun a u => by unfold execOp; kernel_rfl
        case t8 =>
          exact st6_store 7 5 15 84 rfl rfl rfl rfl (by decide) (Dbl.one _) (Dbl.infoT HDL.out) rfl rfl rfl rfl rfl rfl
        case t9 =>
          exact st6_val _ 16 rfl rfl rfl rfl fun a u hb hA hd => by
            have q0 := ev_of (hd 6 85 rfl rfl _ rfl)
            unfold execOp
            simp [go_sem, q0]
      case rest13 =>
        intro vs u hb hR
        have e9 := hR 9 (by decide)
        replace e9 : vs 9 = ed := e9
        obtain ⟨gx, e7, hgx, hx⟩ := hR 8 (by decide)
        replace hx : Db u gx dd := hx
        have X := Lib.hid hx
        replace T := Lib.hid (T.out.on' hb)
        replace RM := Lib.hid (RM.out.below hb)
        simp only [putsFrom, Act.put, List.setIfInBounds_toArray, List.set_cons_succ, List.set_cons_zero, e7, e9]
        generalize vs 0 = z0
        generalize vs 1 = z1
        generalize vs 2 = z2
        generalize vs 3 = z3
        generalize vs 4 = z4
        generalize vs 5 = z5
        generalize vs 6 = z6
        generalize vs 8 = z8
        clear hR e7 e9 hb hx hgx
        rcases hway.out with ⟨hedd, hbm⟩ | ⟨⟨k, n, hedd⟩, hzd⟩
        · have HBM := Lib.hid hbm
          subst hedd
          clear hway hbm
          go_wp2_with (first | (refine wpList_load_rowW rfl 26 (.tmp 15) rfl gx rfl 26 dd.c (0, 0) _ X.out Tryd.underlying26 rfl (Dbl.infoT HDL.out) ?_) | (refine wpList_load_rowW rfl 28 (.tmp 7) rfl (w.heap.size + 1 + 1) rfl 28 #[.int .i64 P, .int .i64 I, .int .i64 B] (0, 0) _ T.out.geo Tryd.underlying28 rfl (by kernel_rfl) ?_))
          refine (HBM.out _ (HT.out.below T.out.on)).mono ?_
          rintro e u2 ⟨A5, c5, n5, x5, rfl, hb, G5, R5⟩
          obtain ⟨rfl, rfl⟩ := G5.out.1 rfl
          replace T := Lib.hid (T.out.on' hb)
          have hS := same_calls A5 C m m c5 cm u2 (R5 rfl) (RM.out.below hb) (by have := HLM.out; omega) (by have := HLM.out; omega)
          rw [sameV_self] at hS
          have HS := Lib.hid hS
          clear hS hb R5 G5 RM X
          go_wp2_with (fail)
          refine HS.out.mono ?_
          rintro e u3 ⟨rfl, m3', rfl⟩
          have b3 := T.out.on.trans (on_drewN u2 m3')
          clear HS T
          go_wp2_with (fail)
          refine (alive_calls _ (HT.out.below b3) (HE.out.below b3)).mono ?_
          rintro e u4 ⟨rfl, hb⟩
          have b4 := b3.trans hb
          clear b3 hb
          go_wp2_with (fail)
          go_ret
          exact ⟨rfl, b4⟩
        · subst hedd
          subst hzd
          have hq := HZD.out
          clear hway
          go_wp2_with (first | (refine wpList_load_rowW rfl 26 (.tmp 15) rfl gx rfl 26 zD.c (0, 0) _ X.out Tryd.underlying26 rfl (Dbl.infoT HDL.out) ?_))
          clear hq
          refine (alive_calls _ (HT.out.below T.out.on) (HE.out.below T.out.on)).mono ?_
          rintro e u4 ⟨rfl, hb⟩
          have b4 := T.out.on.trans hb
          clear hb
          go_wp2_with (fail)
          go_ret
          exact ⟨rfl, b4⟩
theorem eback_calls (s : Slt) (d : Dbl) (C : Option Addr) (m : List Nat) (cm : Nat) (P I B : Int) (w : World) (hL : d.L.length = 10) (hrm : Row w C m) (hwm : Wd m) (hcm : m.length ≤ cm) (hT : TabAt w) (hE : ErrAt w) :
    Calls Tryd.prog 5 #[s.v, d.v, .slice C m.length cm, gv P I B] w fun e w' => e = .returned (.bool true) ∧ On w w' := by
  by_cases h : 200 < s.S.size ∨ longD d = true ∨ 100 < m.length
  · exact eback_long s d C m cm P I B w hL h hT hE
  · exact eback_go s d C m cm P I B w hL (by omega) (by
      cases hd : longD d
      · rfl
      · exact absurd (.inr (.inl hd)) h) (by omega) hrm hwm hcm hT hE
end Go.Proofs.YtipghcpodhokbaaDoor
