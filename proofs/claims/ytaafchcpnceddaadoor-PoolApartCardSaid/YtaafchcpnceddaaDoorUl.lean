/- PoolTurned: for every input the law returns true; nothing that was there has turned. -/
import Derived.Test.YtaafchcpnceddaaDoorUj
import Derived.Test.YtaafchcpnceddaaDoorUp
import Derived.BigRegion
import Derived.BigQuiet
set_option linter.unusedSimpArgs false
set_option linter.unusedVariables false
namespace Go.Proofs.YtaafchcpnceddaaDoor
open Go.RowKit WordMath
/-- The number told last. -/
def lastI (L : List Nat) : Nat → Int
  | 0 => -1
  | j + 1 => (L.getD j 0 : Nat)
theorem tgetD_some {T : List Nat} {j : Nat} (h : j < T.length) : T[j]? = some (T.getD j 0) := by
  rw [List.getD_eq_getElem?_getD, List.getElem?_eq_getElem h]; rfl
theorem lastI_lt {a b : List Nat} {j : Nat} (hj : j < (turnedL a b).length) : lastI (turnedL a b) j < ((turnedL a b).getD j 0 : Nat) := by
  cases j with
  | zero =>
    have : (0 : Int) ≤ ((turnedL a b).getD 0 0 : Nat) := Int.natCast_nonneg _
    show (-1 : Int) < _
    omega
  | succ j =>
    have hr := List.pairwise_iff_getElem.1 (turned_rise a b) j (j + 1) (by omega) hj (Nat.lt_succ_self _)
    show (((turnedL a b).getD j 0 : Nat) : Int) < _
    rw [List.getD_eq_getElem?_getD, List.getD_eq_getElem?_getD, List.getElem?_eq_getElem (by omega), List.getElem?_eq_getElem hj]
    exact Int.ofNat_lt.2 hr
theorem turned_at {a b : List Nat} {j : Nat} (hj : j < (turnedL a b).length) : (turnedL a b).getD j 0 < a.length ∧ (turnedL a b).getD j 0 < b.length ∧ a.getD ((turnedL a b).getD j 0) 0 ≠ b.getD ((turnedL a b).getD j 0) 0 :=
  mem_turned.1 (List.mem_of_getElem? (tgetD_some hj))
theorem ni_getD {T : List Nat} {j : Nat} (h : j < T.length) : (ni T).getD j 0 = (T.getD j 0 : Nat) := by
  unfold ni
  rw [List.getD_eq_getElem?_getD, List.getElem?_map, tgetD_some h]
  rfl
theorem ni_length (T : List Nat) : (ni T).length = T.length := by unfold ni; rw [List.length_map]
/-- Some words are put. -/
structure Tx (a b : List Nat) (j : Nat) (x : List Nat) : Prop where
  len : x.length = a.length
  at' : ∀ q, x.getD q 0 = if q ∈ (turnedL a b).take j then b.getD q 0 else a.getD q 0
theorem Tx.start (a b : List Nat) : Tx a b 0 a := ⟨rfl, fun q => by simp⟩
theorem Tx.step {a b x : List Nat} {j : Nat} (h : Tx a b j x) (hj : j < (turnedL a b).length) : Tx a b (j + 1) (x.set ((turnedL a b).getD j 0) (b.getD ((turnedL a b).getD j 0) 0)) := by
  obtain ⟨h1, h2, _⟩ := turned_at hj
  refine ⟨by rw [List.length_set]; exact h.len, fun q => ?_⟩
  rw [getD_set, List.take_add_one, tgetD_some hj, h.at' q]
  have hl := h.len
  by_cases e : (turnedL a b).getD j 0 = q
  · rw [if_pos ⟨e, by omega⟩, e, if_pos (by simp)]
  · rw [if_neg (fun hh => e hh.1)]
    by_cases hm : q ∈ (turnedL a b).take j
    · rw [if_pos hm, if_pos (by simp [hm])]
    · rw [if_neg hm, if_neg (by
        intro hh
        rcases List.mem_append.1 hh with hh | hh
        · exact hm hh
        · simp at hh
          exact e hh.symm)]
theorem take_getD (l : List Nat) (n q : Nat) (h : q < n) : (l.take n).getD q 0 = l.getD q 0 := by
  rw [List.getD_eq_getElem?_getD, List.getD_eq_getElem?_getD, List.getElem?_take_of_lt h]
theorem Tx.done {a b x : List Nat} (h : Tx a b (turnedL a b).length x) {n : Nat} (hn : min a.length b.length = n) : x.take n = b.take n := by
  have hl := h.len
  refine List.ext_getElem (by rw [List.length_take, List.length_take]; omega) fun q h1 h2 => ?_
  rw [List.length_take] at h1 h2
  have h3 := h.at' q
  rw [List.take_length] at h3
  have h4 : x.getD q 0 = b.getD q 0 := by
    rw [h3]
    split
    · rfl
    · rename_i hm
      rcases Nat.decEq (a.getD q 0) (b.getD q 0) with hne | he
      · exact absurd (mem_turned.2 ⟨by omega, by omega, hne⟩) hm
      · exact he
  rw [List.getD_eq_getElem?_getD, List.getD_eq_getElem?_getD, List.getElem?_eq_getElem (by omega), List.getElem?_eq_getElem (by omega)] at h4
  rw [List.getElem_take, List.getElem_take]
  exact h4
theorem Row.at' {w w' : World} {A : Option Addr} {l : List Nat} (h : Row w A l) (hs : w.heap.size ≤ w'.heap.size) (hb : ∀ ad, A = some ad → 0 < l.length → w'.heap[ad.block]? = w.heap[ad.block]?) : Row w' A l := fun h0 => by
  obtain ⟨ad, e, hl, hc⟩ := h h0
  exact ⟨ad, e, Nat.lt_of_lt_of_le hl hs, fun k hk => (World.cell?_of_block (by rw [add_block]; exact hb ad e h0)).trans (hc k hk)⟩
theorem Cel.at' {w w' : World} {A : Option Addr} {l : List Value} (h : Cel w A l) (hs : w.heap.size ≤ w'.heap.size) (hb : ∀ ad, A = some ad → 0 < l.length → w'.heap[ad.block]? = w.heap[ad.block]?) : Cel w' A l := fun h0 => by
  obtain ⟨ad, e, hl, hc⟩ := h h0
  exact ⟨ad, e, Nat.lt_of_lt_of_le hl hs, fun j u hu => (World.cell?_of_block (by rw [add_block]; exact hb ad e h0)).trans (hc j u hu)⟩
theorem Row.blk {w : World} {A : Option Addr} {l : List Nat} (h : Row w A l) : ∀ ad, A = some ad → 0 < l.length → ad.block < w.heap.size := fun ad e h0 => by
  obtain ⟨ad', e', hl, _⟩ := h h0
  rw [e] at e'
  injection e' with e'
  rw [e']
  exact hl
theorem Row.take {w : World} {A : Option Addr} {l : List Nat} (h : Row w A l) (n : Nat) : Row w A (l.take n) := fun h0 => by
  rw [List.length_take] at h0
  obtain ⟨ad, e, hl, hc⟩ := h (by omega)
  refine ⟨ad, e, hl, fun k hk => ?_⟩
  rw [List.length_take] at hk
  rw [take_getD l n k (by omega)]
  exact hc k (by omega)
set_option maxRecDepth 100000 in
set_option maxHeartbeats 1000000 in
theorem turned_law (A : Option Addr) (l : List Nat) (c : Nat) (B : Option Addr) (m : List Nat) (d : Nat) (w : World) (hr : Row w A l) (hl : Wd l) (hll : l.length ≤ 9223372036854775807) (hlc : l.length ≤ c) (hs : Row w B m) (hmw : Wd m) (hml : m.length ≤ 9223372036854775807) (hmd : m.length ≤ d) (hT : TabAt w) :
    Calls Tryd.prog 7 #[.slice A l.length c, .slice B m.length d] w fun e w' => e = .returned (.bool true) ∧ Below w.heap.size w w' := by
  have HT := Lib.hid hT
  clear hT
  by_cases h1 : 40 < l.length
  · go_enter Tryd.func7, Tryd.ntmps7
    go_wp2_with (first | (go_at_call 8; refine (large_calls A l c w hll).mono ?_; rintro e w' ⟨rfl, rfl⟩) | (go_at_call 9; refine (alive_calls _ HT.out).mono ?_; rintro e w' ⟨rfl, hb⟩))
    go_ret
    exact ⟨rfl, hb⟩
  by_cases h2 : 40 < m.length
  · go_enter Tryd.func7, Tryd.ntmps7
    have d1 : decide (40 < l.length) = false := decide_eq_false h1
    have d2 : decide (40 < m.length) = true := decide_eq_true h2
    go_wp2_with (fail)
    have c1 := large_calls A l c w hll
    rw [d1] at c1
    refine c1.mono ?_
    clear c1
    rintro e w' ⟨rfl, rfl⟩
    go_wp2_with (fail)
    have c1 := large_calls B m d w hml
    rw [d2] at c1
    refine c1.mono ?_
    clear c1
    rintro e w' ⟨rfl, rfl⟩
    go_wp2_with (fail)
    have c1 := alive_calls w HT.out
    refine c1.mono ?_
    clear c1
    rintro e w' ⟨rfl, hb⟩
    go_wp2_with (fail)
    go_ret
    exact ⟨rfl, hb⟩
  have d1 : decide (40 < l.length) = false := decide_eq_false h1
  have d2 : decide (40 < m.length) = false := decide_eq_false h2
  obtain ⟨j0, hj0, hy0, ht0, hu0⟩ := info_parts u64_info
  have HJ := Lib.hid hj0
  have HY := Lib.hid hy0
  have HTT := Lib.hid ht0
  have HU := Lib.hid hu0
  clear hj0 hy0 ht0 hu0
  obtain ⟨N, hN⟩ : ∃ N, (turnedL l m).length = N := ⟨_, rfl⟩
  have hNl : N ≤ l.length := by
    rw [← hN]
    unfold turnedL
    refine Nat.le_trans (List.length_filter_le _ _) ?_
    rw [List.length_range]
    exact Nat.min_le_left _ _
  have HN := Lib.hid hN
  have hnl := ni_length (turnedL l m)
  rw [hN] at hnl
  have HNL := Lib.hid hnl
  have HAT : Hid (∀ j, j < N → (turnedL l m).getD j 0 < l.length ∧ (turnedL l m).getD j 0 < m.length ∧ l.getD ((turnedL l m).getD j 0) 0 ≠ m.getD ((turnedL l m).getD j 0) 0 ∧ lastI (turnedL l m) j < ((turnedL l m).getD j 0 : Nat) ∧ (ni (turnedL l m)).getD j 0 = ((turnedL l m).getD j 0 : Nat)) := fun j hj => by
    have h := turned_at (a := l) (b := m) (j := j) (by omega)
    exact ⟨h.1, h.2.1, h.2.2, lastI_lt (by omega), ni_getD (by omega)⟩
  obtain ⟨M, hM⟩ : ∃ M, min l.length m.length = M := ⟨_, rfl⟩
  have HM := Lib.hid hM
  have hM1 : M ≤ l.length := by omega
  have hM2 : M ≤ m.length := by omega
  clear hN hnl hM
  go_enter Tryd.func7, Tryd.ntmps7
  go_wp2_with (fail)
  have c1 := large_calls A l c w hll
  rw [d1] at c1
  refine c1.mono ?_
  clear c1
  rintro e w' ⟨rfl, rfl⟩
  go_wp2_with (fail)
  have c1 := large_calls B m d w hml
  rw [d2] at c1
  refine c1.mono ?_
  clear c1
  rintro e w' ⟨rfl, rfl⟩
  clear d1 d2
  have HAW := Lib.hid hr.blk
  have HBW := Lib.hid hs.blk
  have B0 := Lib.hid (Below.refl w.heap.size w)
  have RA := Lib.hid (hr)
  have RB := Lib.hid (hs)
  clear hr hs
  go_wp2_with (at_builtin; refine wpList_cloneC rfl (.const (.slice none 0 0)) (.tmp 17) 22 rfl 38 j0 Tryd.underlying22 HJ.out HY.out HTT.out HU.out A l c rfl rfl RA.out (by omega) ?_; intro X cx w1 hr1 hf1 hb1 hblk hcx)
  have hbb := hb1
  have B1 := Lib.hid (B0.out.trans (hbb.mono B0.out.size))
  replace RA := Lib.hid (RA.out.below hbb)
  replace RB := Lib.hid (RB.out.below hbb)
  clear B0 hbb
  have RX := Lib.hid (hr1)
  have HF1 := Lib.hid hf1
  have HBLK := Lib.hid hblk
  clear hr1 hf1 hb1 hblk
  refine (turned_calls A B l m c d w1 RA.out RB.out (by omega) (by omega)).mono ?_
  rintro e w2 ⟨I, ci, rfl, hii, hb2⟩
  rw [HNL.out]
  have HX2 : Hid (0 < l.length → ∃ g, X = some ⟨g, 0, none⟩ ∧ w.heap.size ≤ g ∧ g < w2.heap.size ∧ Blkp 38 w2 g l) := fun h0 => by
    obtain ⟨g, e, hg, hB⟩ := HBLK.out h0
    exact ⟨g, e, hg, Nat.lt_of_lt_of_le hB.lt hb2.size, hB.below hb2 hB.lt⟩
  have HIX : Hid (∀ g ad, X = some ⟨g, 0, none⟩ → 0 < l.length → I = some ad → ad.block ≠ g) := fun g ad e h0 hI => by
    obtain ⟨g2, e2, hg, hB⟩ := HBLK.out h0
    have e3 := e.symm.trans e2
    injection e3 with e3
    injection e3 with e3
    subst e3
    have := hii.2 ad hI
    have := hB.lt
    omega
  have hbb := hb2
  have B2 := Lib.hid (B1.out.trans (hbb.mono B1.out.size))
  replace RA := Lib.hid (RA.out.below hbb)
  replace RB := Lib.hid (RB.out.below hbb)
  replace RX := Lib.hid (RX.out.below hbb)
  clear B1 hbb
  have FI := Lib.hid (hii.cel)
  clear hii hb2 HBLK
  go_wp2_with (fail)
  go_loopw [7, 8] (fun last i wr => ∃ (j : Nat) (p : Int) (xl : List Nat), i = .int .i64 j ∧ j ≤ N ∧ last = .int .i64 p ∧ Hid (lastI (turnedL l m) j = p) ∧ Hid (Tx l m j xl) ∧ Hid (0 < l.length → ∃ g, X = some ⟨g, 0, none⟩ ∧ w.heap.size ≤ g ∧ g < wr.heap.size ∧ Blkp 38 wr g xl) ∧ Row wr A l ∧ Row wr B m ∧ Cel wr I (iv (ni (turnedL l m))) ∧ Hid (Below w.heap.size w wr)) (fun _ i _ => N - (intOf i).toNat)
  case atStart => exact ⟨0, -1, l, rfl, by omega, rfl, rfl, Tx.start l m, HX2.out, RA.out, RB.out, FI.out, B2.out⟩
  case round =>
    clear HX2 RA RB FI RX HF1
    obtain ⟨j, p, xl, rfl, hj, rfl, hp, htx, hblk, hra, hrb, hfi, hbw⟩ := hrel
    by_cases hjN : j < N
    · obtain ⟨t1, t2, t3, t4, t5⟩ := HAT.out j hjN
      have htx2 := Lib.hid (htx.out.step (by rw [HN.out]; exact hjN))
      rw [hp.out] at t4
      have hlast : Hid (lastI (turnedL l m) (j + 1) = (((turnedL l m).getD j 0 : Nat) : Int)) := rfl
      obtain ⟨adI, rfl, hcI⟩ := hfi.int (k := j) (by rw [HNL.out]; exact hjN)
      rw [t5] at hcI
      generalize (turnedL l m).getD j 0 = t at *
      obtain ⟨adA, rfl, hbA, hcA⟩ := hra (by omega)
      obtain ⟨adB, rfl, hbB, hcB⟩ := hrb (by omega)
      have ha1 := hcA t t1
      have hb1 := hcB t t2
      have hw1 := hl t
      have hw2 := hmw t
      obtain ⟨g, rfl, hgw, hgs, hX⟩ := hblk.out (by omega)
      have hxc := hX.cell t (by rw [htx.out.len]; exact t1)
      have hxf := hX.frozen t
      have hne : ((l.getD t 0 : Int) == (m.getD t 0 : Nat)) = false := by rw [beq_eq_false_iff_ne]; omega
      have HX3 := Lib.hid (hX.set t (m.getD t 0))
      clear hcA hcB
      generalize l.getD t 0 = x at *
      generalize m.getD t 0 = y at *
      generalize xl.getD t 0 = z at *
      go_wp2_with (fail)
      have d3 : decide ((t : Int) ≤ p) = false := decide_eq_false (by omega)
      have d4 : decide (l.length ≤ t) = false := decide_eq_false (by omega)
      have d5 : decide (m.length ≤ t) = false := decide_eq_false (by omega)
      have d6 : (x == y) = false := by rw [beq_eq_false_iff_ne]; exact t3
      go_quiet (fail)
      go_wp2_with (fail)
      go_region
      have hoth : ∀ b, b ≠ g → ((wr.drewN (nq + 1)).setCell ⟨g, t, none⟩ (.int .u64 (y : Int))).heap[b]? = wr.heap[b]? := fun b hb => Below.heap_setCell (wr.drewN (nq + 1)) ⟨g, t, none⟩ (.int .u64 (y : Int)) b hb
      have hsz : wr.heap.size ≤ ((wr.drewN (nq + 1)).setCell ⟨g, t, none⟩ (.int .u64 (y : Int))).heap.size := by simp [World.setCell]
      have HXV : Hid (Blkp 38 ((wr.drewN (nq + 1)).setCell ⟨g, t, none⟩ (.int .u64 (y : Int))) g (xl.set t y)) := (hX.drewN (nq + 1)).set t y
      have HBV := Lib.hid ((below_drewN hbw.out (nq + 1)).setCell (p := ⟨g, t, none⟩) hgw (.int .u64 (y : Int)))
      have l0 : 0 < l.length := by omega
      have m0 : 0 < m.length := by omega
      have HRA := Lib.hid (hra.at' hsz fun ad e h0 => hoth _ (by have := HAW.out ad e h0; omega))
      have HRB := Lib.hid (hrb.at' hsz fun ad e h0 => hoth _ (by have := HBW.out ad e h0; omega))
      have HFI := Lib.hid (hfi.at' hsz fun ad e h0 => hoth _ (HIX.out g ad rfl l0 e))
      have hbI : ((wr.drewN (nq + 1)).setCell ⟨g, t, none⟩ (.int .u64 (y : Int))).heap[(adI.add j).block]? = wr.heap[(adI.add j).block]? := by
        rw [add_block]
        exact hoth adI.block (HIX.out g adI rfl l0 rfl)
      have hcIV := (World.cell?_of_block hbI).trans hcI
      clear hbI
      have hgV : g < ((wr.drewN (nq + 1)).setCell ⟨g, t, none⟩ (.int .u64 (y : Int))).heap.size := by omega
      clear hoth hsz hxc hxf hX hcI ha1 hb1 hra hrb hfi hblk htx hbw HX3 hbA hbB hgs
      generalize (wr.drewN (nq + 1)).setCell ⟨g, t, none⟩ (.int .u64 (y : Int)) = V at *
      go_wp2_with (fail)
      go_roundw
      case rel => exact ⟨j + 1, t, xl.set t y, by go_num, by omega, rfl, hlast.out, htx2.out, fun _ => ⟨g, rfl, hgw, hgV, HXV.out⟩, HRA.out, HRB.out, HFI.out, HBV.out⟩
      case measure => simp [intOf]; omega
    · obtain rfl : j = N := by omega
      go_wp2_with (refine wpList_min2 rfl (.tmp 87) (.tmp 89) _ rfl l.length m.length M rfl rfl HM.out ?_)
      have htd := htx.out
      have hxl := htd.len
      rw [← HN.out] at htd
      have htk := htd.done HM.out
      have HRX : Hid (Row wr X xl) := by
        show Row wr X xl
        by_cases h0 : 0 < l.length
        · obtain ⟨g, e, _, _, hB⟩ := hblk.out h0
          rw [e]
          exact hB.row
        · have : xl = [] := List.eq_nil_of_length_eq_zero (by omega)
          rw [this]
          exact Row.nil _ _
      have hlt : (m.take M).length = M := by rw [List.length_take]; omega
      have CS : Hid (∀ u, On wr u → Calls Tryd.prog 15 #[.slice X M cx, .slice B M d] u fun e w' => ∃ v, e = .returned v ∧ Sp4.ok (.val (.bool true)) v w' ∧ Below u.heap.size u w') := fun u hb => by
        have h := same_calls X B (m.take M) cx d u (by rw [← htk]; exact (HRX.out.below hb).take M) ((hrb.below hb).take M) (by omega)
        rw [hlt] at h
        refine h.mono ?_
        rintro e w' ⟨rfl, q, rfl⟩
        exact ⟨_, rfl, rfl, below_drewN (Below.refl _ _) q⟩
      have C1 : Hid (∀ u, On wr u → Calls Tryd.prog 16 #[.slice B m.length d, .slice A l.length c] u fun e w' => ∃ v, e = .returned v ∧ Sp4.ok (.len j) v w' ∧ Below u.heap.size u w') := fun u hb => by
        refine (turned_calls B A m l d c u (hrb.below hb) (hra.below hb) (by omega) (by omega)).mono ?_
        rintro e w' ⟨A9, c9, rfl, _, hb9⟩
        exact ⟨_, rfl, ⟨A9, c9, by rw [ni_length, turned_comm, HN.out]⟩, hb9⟩
      have C2 : Hid (∀ u, On wr u → Calls Tryd.prog 16 #[.slice A l.length c, .slice A l.length c] u fun e w' => ∃ v, e = .returned v ∧ Sp4.ok (.len 0) v w' ∧ Below u.heap.size u w') := fun u hb => by
        refine (turned_calls A A l l c c u (hra.below hb) (hra.below hb) (by omega) (by omega)).mono ?_
        rintro e w' ⟨A9, c9, rfl, _, hb9⟩
        exact ⟨_, rfl, ⟨A9, c9, by rw [ni_length, turned_self]; rfl⟩, hb9⟩
      have C3 : Hid (∀ u, On wr u → Calls Tryd.prog 9 #[] u fun e w' => ∃ v, e = .returned v ∧ Sp4.ok (.val (.bool true)) v w' ∧ Below u.heap.size u w') := fun u hb => by
        refine (alive_calls u (HT.out.below (hbw.out.trans (Below.mono hb hbw.out.size)))).mono ?_
        rintro e w' ⟨rfl, hb9⟩
        exact ⟨_, rfl, rfl, hb9⟩
      clear htd htk hlt hrb hra hfi hblk HRX
      refine wp_region4 [.val (.slice X l.length cx), .val (.int .i64 (M : Int)), .val (.slice X M cx), .val (.slice B m.length d), .val (.int .i64 (M : Int)), .val (.slice B M d), .val (.bool true), .val (.bool true), .val (.slice B m.length d), .val (.slice A l.length c), .len j, .val (.int .i64 (j : Int)), .val (.slice I j ci), .val (.int .i64 (j : Int)), .val (.bool true), .val (.bool true), .val (.bool true), .val (.slice A l.length c), .val (.slice A l.length c), .len 0, .val (.int .i64 (0 : Nat)), .val (.bool true), .val (.bool true), .val (.bool true), .val (.bool true), .val (.bool true), .val (.bool true)] (by kernel_rfl) (by kernel_rfl) (by kernel_rfl) ?steps (fun vs u hb hv => ?fin)
      case steps =>
        refine ⟨?s0, ?s1, ?s2, ?s3, ?s4, ?s5, ?s6, ?s7, ?s8, ?s9, ?s10, ?s11, ?s12, ?s13, ?s14, ?s15, ?s16, ?s17, ?s18, ?s19, ?s20, ?s21, ?s22, ?s23, ?s24, ?s25, ?s26, trivial⟩
        case s0 =>
          exact st4_val _ rfl (.inl rfl) fun a u hb hA hd => by
            have q0 := ev_of (show a.eval (.tmp 5) = .slice X l.length cx from hA.eval 5 rfl)
            unfold execOp
            simp [go_sem, q0]
        case s1 =>
          exact st4_val _ rfl (.inl rfl) fun a u hb hA hd => by
            have q0 := ev_of (show a.eval (.tmp 9) = .int .i64 (M : Int) from hA.eval 9 rfl)
            unfold execOp
            simp [go_sem, q0]
        case s2 =>
          exact st4_val _ rfl (.inl rfl) fun a u hb hA hd => run_sliceTo rfl X l.length cx M (hd 0 91 rfl rfl _ rfl) (hd 1 92 rfl rfl _ rfl) (by omega)
        case s3 =>
          exact st4_val _ rfl (.inl rfl) fun a u hb hA hd => by
            have q0 := ev_of (show a.eval (.tmp 1) = .slice B m.length d from hA.eval 1 rfl)
            unfold execOp
            simp [go_sem, q0]
        case s4 =>
          exact st4_val _ rfl (.inl rfl) fun a u hb hA hd => by
            have q0 := ev_of (show a.eval (.tmp 9) = .int .i64 (M : Int) from hA.eval 9 rfl)
            unfold execOp
            simp [go_sem, q0]
        case s5 =>
          exact st4_val _ rfl (.inl rfl) fun a u hb hA hd => run_sliceTo rfl B m.length d M (hd 3 94 rfl rfl _ rfl) (hd 4 95 rfl rfl _ rfl) (by omega)
        case s6 =>
          refine st4_call _ rfl (.inl rfl) 15 fun a u hb hA hd => ?_
          have q0 := ev_of (show a.eval (.tmp 93) = .slice X M cx from hd 2 93 rfl rfl _ rfl)
          have q1 := ev_of (show a.eval (.tmp 96) = .slice B M d from hd 5 96 rfl rfl _ rfl)
          refine ⟨#[.slice X M cx, .slice B M d], ?_, CS.out u hb⟩
          unfold execOp
          simp [go_sem, q0, q1]
        case s7 =>
          exact st4_move 6 97 rfl (.inl rfl) rfl rfl rfl
        case s8 =>
          exact st4_val _ rfl (.inr ⟨7, 98, true, rfl, rfl, rfl, rfl⟩) fun a u hb hA hd => by
            have q0 := ev_of (show a.eval (.tmp 1) = .slice B m.length d from hA.eval 1 rfl)
            unfold execOp
            simp [go_sem, q0]
        case s9 =>
          exact st4_val _ rfl (.inr ⟨7, 98, true, rfl, rfl, rfl, rfl⟩) fun a u hb hA hd => by
            have q0 := ev_of (show a.eval (.tmp 0) = .slice A l.length c from hA.eval 0 rfl)
            unfold execOp
            simp [go_sem, q0]
        case s10 =>
          refine st4_call _ rfl (.inr ⟨7, 98, true, rfl, rfl, rfl, rfl⟩) 16 fun a u hb hA hd => ?_
          have q0 := ev_of (show a.eval (.tmp 99) = .slice B m.length d from hd 8 99 rfl rfl _ rfl)
          have q1 := ev_of (show a.eval (.tmp 100) = .slice A l.length c from hd 9 100 rfl rfl _ rfl)
          refine ⟨#[.slice B m.length d, .slice A l.length c], ?_, C1.out u hb⟩
          unfold execOp
          simp [go_sem, q0, q1]
        case s11 =>
          exact st4_valD _ rfl (.inr ⟨7, 98, true, rfl, rfl, rfl, rfl⟩) fun a u hb hA hd => by
            obtain ⟨A9, c9, q9⟩ := (show ∃ A c, a.eval (.tmp 101) = .slice A j c from hd 10 101 rfl rfl _ rfl)
            exact run_lenI rfl A9 j c9 q9
        case s12 =>
          exact st4_val _ rfl (.inr ⟨7, 98, true, rfl, rfl, rfl, rfl⟩) fun a u hb hA hd => by
            have q0 := ev_of (show a.eval (.tmp 6) = .slice I j ci from hA.eval 6 rfl)
            unfold execOp
            simp [go_sem, q0]
        case s13 =>
          exact st4_val _ rfl (.inr ⟨7, 98, true, rfl, rfl, rfl, rfl⟩) fun a u hb hA hd => run_lenI rfl I j ci (hd 12 103 rfl rfl _ rfl)
        case s14 =>
          exact st4_val _ rfl (.inr ⟨7, 98, true, rfl, rfl, rfl, rfl⟩) fun a u hb hA hd => run_eqI rfl j (hd 11 102 rfl rfl _ rfl) (hd 13 104 rfl rfl _ rfl)
        case s15 =>
          exact st4_val _ rfl (.inl rfl) fun a u hb hA hd => by
            have q1 : a.eval (.tmp 105) = .bool true := hd 14 105 rfl rfl _ rfl
            exact (run_pickT rfl (hd 7 98 rfl rfl _ rfl)).trans (congrArg (fun z => Result.ok (Next.value z) u) q1)
        case s16 =>
          exact st4_move 15 106 rfl (.inl rfl) rfl rfl rfl
        case s17 =>
          exact st4_val _ rfl (.inr ⟨16, 107, true, rfl, rfl, rfl, rfl⟩) fun a u hb hA hd => by
            have q0 := ev_of (show a.eval (.tmp 0) = .slice A l.length c from hA.eval 0 rfl)
            unfold execOp
            simp [go_sem, q0]
        case s18 =>
          exact st4_val _ rfl (.inr ⟨16, 107, true, rfl, rfl, rfl, rfl⟩) fun a u hb hA hd => by
            have q0 := ev_of (show a.eval (.tmp 0) = .slice A l.length c from hA.eval 0 rfl)
            unfold execOp
            simp [go_sem, q0]
        case s19 =>
          refine st4_call _ rfl (.inr ⟨16, 107, true, rfl, rfl, rfl, rfl⟩) 16 fun a u hb hA hd => ?_
          have q0 := ev_of (show a.eval (.tmp 108) = .slice A l.length c from hd 17 108 rfl rfl _ rfl)
          have q1 := ev_of (show a.eval (.tmp 109) = .slice A l.length c from hd 18 109 rfl rfl _ rfl)
          refine ⟨#[.slice A l.length c, .slice A l.length c], ?_, C2.out u hb⟩
          unfold execOp
          simp [go_sem, q0, q1]
        case s20 =>
          exact st4_valD _ rfl (.inr ⟨16, 107, true, rfl, rfl, rfl, rfl⟩) fun a u hb hA hd => by
            obtain ⟨A9, c9, q9⟩ := (show ∃ A c, a.eval (.tmp 110) = .slice A 0 c from hd 19 110 rfl rfl _ rfl)
            exact run_lenI rfl A9 0 c9 q9
        case s21 =>
          exact st4_val _ rfl (.inr ⟨16, 107, true, rfl, rfl, rfl, rfl⟩) fun a u hb hA hd => run_eqI rfl 0 (hd 20 111 rfl rfl _ rfl) rfl
        case s22 =>
          exact st4_val _ rfl (.inl rfl) fun a u hb hA hd => by
            have q1 : a.eval (.tmp 112) = .bool true := hd 21 112 rfl rfl _ rfl
            exact (run_pickT rfl (hd 16 107 rfl rfl _ rfl)).trans (congrArg (fun z => Result.ok (Next.value z) u) q1)
        case s23 =>
          exact st4_move 22 113 rfl (.inl rfl) rfl rfl rfl
        case s24 =>
          refine st4_call _ rfl (.inr ⟨23, 114, true, rfl, rfl, rfl, rfl⟩) 9 fun a u hb hA hd => ?_
          refine ⟨#[], ?_, C3.out u hb⟩
          unfold execOp
          simp [go_sem]
        case s25 =>
          exact st4_val _ rfl (.inl rfl) fun a u hb hA hd => by
            have q1 : a.eval (.tmp 115) = .bool true := hd 24 115 rfl rfl _ rfl
            exact (run_pickT rfl (hd 23 114 rfl rfl _ rfl)).trans (congrArg (fun z => Result.ok (Next.value z) u) q1)
        case s26 =>
          exact st4_assign 25 116 rfl (.inl rfl) rfl rfl rfl
      case fin =>
        have ee : vs 26 = .bool true := hv 26 (by decide)
        simp only [putsFrom, Act.put, List.setIfInBounds_toArray, List.set_cons_succ, List.set_cons_zero, ee]
        go_wp2
        go_ret
        exact ⟨rfl, hbw.out.trans (Below.mono hb hbw.out.size)⟩
end Go.Proofs.YtaafchcpnceddaaDoor
