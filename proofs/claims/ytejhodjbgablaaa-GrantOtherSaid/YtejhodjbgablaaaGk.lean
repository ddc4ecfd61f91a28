/- May he? What is the most? -/
import Derived.Test.YtejhodjbgablaaaGj
set_option linter.unusedSimpArgs false
set_option linter.unusedVariables false
namespace Go.Proofs.Ytejhodjbgablaaa
open Go.RowKit
theorem off_len {c : Cr} {x : At} {dir : Bool} (hs : ASm x) (hw : Low x) : (offL c x dir).length ≤ 9223372036854775807 := by
  have h1 := permsL_len x.ac.us (maskN x.ac) fun i => decide (i = c.ui)
  have h2 := permsL_len (entL x) (maskN x.ac) fun i => inB c i
  have h3 := hs.ac.us
  have h4 := hw.el
  unfold offL
  split
  · simp
  · split
    · simp
    · split
      · unfold usL; omega
      · split
        · unfold grL; omega
        · simp
theorem Pb.one {w V : World} {c : Cr} {A : Option Addr} {n : Nat} {x : At} {p : ALie} (h : Pb w V c A n x p) (o : Obj) : Pb w (V.alloc o) c A n x p := h.on ((Below.refl _ _).alloc (Nat.le_refl _) o)
set_option maxRecDepth 100000 in
set_option maxHeartbeats 4000000 in
theorem gvalid_calls (c : Cr) (A : Option Addr) (n : Nat) (x : At) (p : ALie) (w : World) (hc : CLies w c A) (h : ALies w x p) (hs : ASm x) :
    Calls Try.prog 22 #[c.v A n, x.v p] w fun e w' => e = .returned (.bool (validB c x)) ∧ Below w.heap.size w w' := by
  obtain ⟨V, hV⟩ : ∃ V, V = (w.alloc (.cells (c.c A n) 25)).alloc (.cells (x.c p) 31) := ⟨_, rfl⟩
  have S0 : Hid (Pb w V c A n x p) := Lib.hid (by rw [hV]; exact Pb.start hc h)
  have HS := Lib.hid hs
  clear hc h hs
  go_enter Try.func22, Try.ntmps22
  go_upto_region 1 with (fail)
  rw [← hV]
  clear hV
  go_wp2_with (refine wpList_load_part rfl 25 (.tmp 2) rfl w.heap.size 0 rfl (c.c A n).toList _ S0.out.cb.all Try.underlying25 rfl cred_size (c.v A n) rfl ?_)
  refine (gcheck_calls c A n V S0.out.cl.sm).mono ?_
  rintro e w1 ⟨rfl, hb⟩
  have S1 := Lib.hid (S0.out.on hb)
  clear hb S0
  by_cases h4 : c.gs.length ≤ 4
  case neg =>
    have e1 : chkN c = 622 := by unfold chkN; rw [if_neg h4]
    have HV : Hid (validB c x = false) := Lib.hid (by unfold validB; rw [decide_eq_false h4]; rfl)
    rw [e1]
    clear h4 e1
    go_wp2_with (fail)
    go_ret
    exact ⟨by rw [HV.out]; rfl, S1.out.be⟩
  case pos =>
    have e1 : chkN c = 0 := by unfold chkN; rw [if_pos h4]
    have HV : Hid (validB c x = amayB x) := Lib.hid (by unfold validB; rw [decide_eq_true h4]; rfl)
    rw [e1]
    clear h4 e1
    go_wp2_with (refine wpList_load_part rfl 31 (.tmp 3) rfl (w.heap.size + 1) 0 rfl (x.c p).toList _ S1.out.bt.bt0 Try.underlying31 rfl attr_size (x.v p) rfl ?_)
    refine (acheck_calls x p w1 S1.out.al HS.out).mono ?_
    rintro e w2 ⟨rfl, hb⟩
    have S2 := Lib.hid (S1.out.on hb)
    clear hb S1
    cases hm : amayB x
    all_goals
      rw [hm] at HV
      clear hm
      rw [show ckN _ = _ from rfl]
      go_wp2_with (fail)
      go_ret
      exact ⟨by rw [HV.out]; rfl, S2.out.be⟩
set_option maxRecDepth 100000 in
set_option maxHeartbeats 4000000 in
theorem most_calls (c : Cr) (A : Option Addr) (n : Nat) (x : At) (p : ALie) (dir : Bool) (w : World) (hc : CLies w c A) (h : ALies w x p) (hs : ASm x) :
    Calls Try.prog 16 #[c.v A n, x.v p, .bool dir] w fun e w' => e = .returned (.int .u8 (mostG c x dir : Nat)) ∧ Below w.heap.size w w' := by
  obtain ⟨V, hV⟩ : ∃ V, V = (w.alloc (.cells (c.c A n) 25)).alloc (.cells (x.c p) 31) := ⟨_, rfl⟩
  have S0 : Hid (Pb w V c A n x p) := Lib.hid (by rw [hV]; exact Pb.start hc h)
  have HS := Lib.hid hs
  clear hc h hs
  go_enter Try.func16, Try.ntmps16
  go_upto_region 1 with (fail)
  rw [← hV]
  clear hV
  go_wp2_with (first
    | (refine wpList_load_part rfl 25 (.tmp 3) rfl w.heap.size 0 rfl (c.c A n).toList _ S0.out.cb.all Try.underlying25 rfl cred_size (c.v A n) rfl ?_)
    | (refine wpList_load_part rfl 31 (.tmp 4) rfl (w.heap.size + 1) 0 rfl (x.c p).toList _ S0.out.bt.bt0 Try.underlying31 rfl attr_size (x.v p) rfl ?_))
  refine (gvalid_calls c A n x p V S0.out.cl S0.out.al HS.out).mono ?_
  rintro e w1 ⟨rfl, hb⟩
  have S1 := Lib.hid (S0.out.on hb)
  clear hb S0
  cases hv : validB c x
  case false =>
    have HV : Hid (mostG c x dir = 0) := Lib.hid (by unfold mostG; rw [hv]; rfl)
    clear hv
    go_wp2_with (fail)
    go_ret
    exact ⟨by rw [HV.out]; rfl, S1.out.be⟩
  case true =>
    have HV : Hid (mostG c x dir = orL (offL c x dir)) := Lib.hid (by unfold mostG; rw [hv]; rfl)
    have ha : amayB x = true := by unfold validB at hv; rw [Bool.and_eq_true] at hv; exact hv.2
    have HA := Lib.hid ha
    have HW := Lib.hid (low_of ha)
    clear hv ha
    go_wp2_with (first
      | (refine wpList_load_part rfl 25 (.tmp 3) rfl w.heap.size 0 rfl (c.c A n).toList _ S1.out.cb.all Try.underlying25 rfl cred_size (c.v A n) rfl ?_)
      | (refine wpList_load_part rfl 31 (.tmp 4) rfl (w.heap.size + 1) 0 rfl (x.c p).toList _ S1.out.bt.bt0 Try.underlying31 rfl attr_size (x.v p) rfl ?_))
    refine (offers_calls c A n x p dir w1 S1.out.cl S1.out.al HS.out HW.out).mono ?_
    rintro e w2 ⟨B, d, rfl, hR, hb⟩
    have S2 := Lib.hid (S1.out.on hb)
    have HT := Lib.hid (together_calls B (offL c x dir) d w2 hR.out (off_len HS.out HW.out) (lt8 (off_lt HA.out)))
    clear hb S1 hR
    generalize offL c x dir = l at *
    go_wp2_with (fail)
    refine HT.out.mono ?_
    rintro e w3 ⟨rfl, rfl⟩
    go_wp2_with (fail)
    go_ret
    exact ⟨by rw [HV.out]; rfl, S2.out.be⟩
set_option maxRecDepth 100000 in
set_option maxHeartbeats 4000000 in
theorem may_calls (c : Cr) (A : Option Addr) (n : Nat) (x : At) (p : ALie) (dir : Bool) (q : Nat) (w : World) (hc : CLies w c A) (h : ALies w x p) (hs : ASm x) (hq : q < 256) :
    Calls Try.prog 13 #[c.v A n, x.v p, .bool dir, .int .u8 (q : Nat)] w fun e w' => e = .returned (.bool (mayG c x dir q)) ∧ Below w.heap.size w w' := by
  obtain ⟨V, hV⟩ : ∃ V, V = ((w.alloc (.cells (c.c A n) 25)).alloc (.cells (x.c p) 31)).alloc (.cells #[.int .u8 (q : Nat)] 5) := ⟨_, rfl⟩
  have S0 : Hid (Pb w V c A n x p) := Lib.hid (by rw [hV]; exact (Pb.start hc h).one _)
  have hw0 : V.heap[w.heap.size + 2]? = some (.cells #[.int .u8 (q : Nat)] 5 (0, 0)) := by
    rw [hV]
    have := heap_alloc_new ((w.alloc (.cells (c.c A n) 25)).alloc (.cells (x.c p) 31)) (.cells #[.int .u8 (q : Nat)] 5)
    rwa [World.size_alloc, World.size_alloc] at this
  have HQ0 := Lib.hid hw0
  have HS := Lib.hid hs
  clear hc h hs hw0
  go_enter Try.func13, Try.ntmps13
  go_upto_region 1 with (fail)
  rw [← hV]
  clear hV
  go_wp2_with (first
    | (refine wpList_load_part rfl 25 (.tmp 4) rfl w.heap.size 0 rfl (c.c A n).toList _ S0.out.cb.all Try.underlying25 rfl cred_size (c.v A n) rfl ?_)
    | (refine wpList_load_part rfl 31 (.tmp 5) rfl (w.heap.size + 1) 0 rfl (x.c p).toList _ S0.out.bt.bt0 Try.underlying31 rfl attr_size (x.v p) rfl ?_))
  refine (gvalid_calls c A n x p V S0.out.cl S0.out.al HS.out).mono ?_
  rintro e w1 ⟨rfl, hb⟩
  have S1 := Lib.hid (S0.out.on hb)
  have HQ1 := Lib.hid ((hb.block _ (lt_of_cells HQ0.out)).trans HQ0.out)
  clear hb S0 HQ0
  cases hv : validB c x
  case false =>
    have HV : Hid (mayG c x dir q = false) := Lib.hid (by unfold mayG; rw [hv]; rfl)
    clear hv
    go_wp2_with (fail)
    go_ret
    exact ⟨by rw [HV.out]; rfl, S1.out.be⟩
  case true =>
    have HV0 : Hid (mayG c x dir q = (decide (q ≤ 7) && (offL c x dir).any (hasF q))) := Lib.hid (by unfold mayG; rw [hv]; rfl)
    have ha : amayB x = true := by unfold validB at hv; rw [Bool.and_eq_true] at hv; exact hv.2
    have HA := Lib.hid ha
    have HW := Lib.hid (low_of ha)
    have yq : w1.cell? ⟨w.heap.size + 2, 0, none⟩ = some (.int .u8 (q : Nat)) := cell_of_row w1 _ 0 _ 5 (0, 0) HQ1.out
    clear hv ha
    by_cases h7 : q ≤ 7
    case neg =>
      have HV : Hid (mayG c x dir q = false) := Lib.hid (by rw [HV0.out, decide_eq_false h7]; rfl)
      have d1 : decide ((7 : Int) < (q : Int)) = true := by rw [decide_eq_true_eq]; omega
      go_wp2_with (fail)
      go_ret
      exact ⟨by rw [HV.out]; rfl, S1.out.be⟩
    case pos =>
      have HV : Hid (mayG c x dir q = (offL c x dir).any (hasF q)) := Lib.hid (by rw [HV0.out, decide_eq_true h7]; rfl)
      have d1 : decide ((7 : Int) < (q : Int)) = false := by rw [decide_eq_false_iff_not]; omega
      go_wp2_with (first
        | (refine wpList_load_part rfl 25 (.tmp 4) rfl w.heap.size 0 rfl (c.c A n).toList _ S1.out.cb.all Try.underlying25 rfl cred_size (c.v A n) rfl ?_)
        | (refine wpList_load_part rfl 31 (.tmp 5) rfl (w.heap.size + 1) 0 rfl (x.c p).toList _ S1.out.bt.bt0 Try.underlying31 rfl attr_size (x.v p) rfl ?_))
      refine (offers_calls c A n x p dir w1 S1.out.cl S1.out.al HS.out HW.out).mono ?_
      rintro e w2 ⟨B, d, rfl, hR, hb⟩
      have S2 := Lib.hid (S1.out.on hb)
      have hq2 : w2.cell? ⟨w.heap.size + 2, 0, none⟩ = some (.int .u8 (q : Nat)) := cell_of_row w2 _ 0 _ 5 (0, 0) ((hb.block _ (lt_of_cells HQ1.out)).trans HQ1.out)
      have HT := Lib.hid (containsf_calls B (offL c x dir) d (w.heap.size + 2) q w2 hR.out (off_len HS.out HW.out) (lt8 (off_lt HA.out)) hq hq2)
      clear hb S1 hR hq2 HV0
      generalize offL c x dir = l at *
      go_wp2_with (fail)
      refine HT.out.mono ?_
      rintro e w3 ⟨rfl, rfl⟩
      go_wp2_with (fail)
      go_ret
      exact ⟨by rw [HV.out]; rfl, S2.out.be⟩
end Go.Proofs.Ytejhodjbgablaaa
