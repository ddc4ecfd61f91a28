/- Something may be begun: what the program says, what the document says; which group it has. -/
import Derived.Test.YtgdiiicaljidpaaQm
import Derived.Test.YtgdiiicaljidpaaOb
set_option linter.unusedSimpArgs false
set_option linter.unusedVariables false
set_option linter.unusedSimpArgs false
set_option linter.unusedVariables false
namespace Go.Proofs.Ytgdiiicaljidpaa
open Go.RowKit
theorem knd (k i : Nat) (h : k = i) : ((k : Int) == (i : Int)) = true := by rw [h]; exact beq_self_eq_true _
theorem knd_no (k i : Nat) (h : ¬ k = i) : ((k : Int) == (i : Int)) = false := by rw [beq_eq_false_iff_ne]; omega
set_option maxRecDepth 100000 in
set_option maxHeartbeats 4000000 in
theorem bmay_calls (c : Cr) (A : Option Addr) (n : Nat) (x : At) (p : ALie) (k : Nat) (w : World) (hc : CLies w c A) (h : ALies w x p) (hs : ASm x) :
    Calls Try.prog 22 #[c.v A n, x.v p, .int .u8 (k : Nat)] w fun e w' => e = .returned (.bool (begB c x k)) ∧ Below w.heap.size w w' := by
  obtain ⟨V, hV⟩ : ∃ V, V = (w.alloc (.cells (c.c A n) 25)).alloc (.cells (x.c p) 31) := ⟨_, rfl⟩
  have S0 : Hid (Pb w V c A n x p) := Lib.hid (by rw [hV]; exact Pb.start hc h)
  have HS := Lib.hid hs
  obtain ⟨r, hr⟩ : ∃ r, begB c x k = r := ⟨_, rfl⟩
  have HR := Lib.hid hr
  rw [hr]
  clear hc h hs hr
  by_cases hk : 1 ≤ k ∧ k ≤ 3
  case neg =>
    have e1 : ((k : Int) == 1) = false := knd_no k 1 (by omega)
    have e2 : ((k : Int) == 2) = false := knd_no k 2 (by omega)
    have e3 : ((k : Int) == 3) = false := knd_no k 3 (by omega)
    have HF : Hid (r = false) := Lib.hid (by
      rw [← HR.out]
      unfold begB
      have h3 : (decide (1 ≤ k) && decide (k ≤ 3)) = false := by
        rw [Bool.eq_false_iff]
        intro hh
        rw [Bool.and_eq_true, decide_eq_true_eq, decide_eq_true_eq] at hh
        exact hk hh
      rw [h3, Bool.and_false])
    clear hk HR
    go_enter Try.func22, Try.ntmps22
    go_upto_region 1 with (fail)
    rw [← hV]
    clear hV
    go_wp2_with (fail)
    go_ret
    exact ⟨by rw [HF.out]; rfl, S0.out.be⟩
  case pos =>
    have HK : Hid (r = validB c x) := Lib.hid (by
      rw [← HR.out]
      unfold begB
      rw [decide_eq_true hk.1, decide_eq_true hk.2]
      simp)
    clear HR
    go_enter Try.func22, Try.ntmps22
    go_upto_region 1 with (fail)
    rw [← hV]
    clear hV
    have h3 : k = 1 ∨ k = 2 ∨ k = 3 := by omega
    clear hk
    have fin : ∀ (V1 : World) (S1 : Pb w V1 c A n x p), True := fun _ _ => trivial
    rcases h3 with rfl | rfl | rfl
    all_goals
      clear fin
      go_wp2_with (refine wpList_load_part rfl 25 (.tmp 3) rfl w.heap.size 0 rfl (c.c A n).toList _ S0.out.cb.all Try.underlying25 rfl cred_size (c.v A n) rfl ?_)
      refine (gcheck_calls c A n V S0.out.cl.sm).mono ?_
      rintro e w1 ⟨rfl, hb⟩
      have S1 := Lib.hid (S0.out.on hb)
      clear hb S0
      by_cases h4 : c.gs.length ≤ 4
      case neg =>
        have e1 : chkN c = 622 := by unfold chkN; rw [if_neg h4]
        have HV : Hid (validB c x = false) := Lib.hid (by unfold validB; rw [decide_eq_false h4]; rfl)
        rw [e1]
        clear h4 e1
        go_wp2_with (fail)
        go_ret
        exact ⟨by rw [HK.out, HV.out]; rfl, S1.out.be⟩
      case pos =>
        have e1 : chkN c = 0 := by unfold chkN; rw [if_pos h4]
        have HV : Hid (validB c x = amayB x) := Lib.hid (by unfold validB; rw [decide_eq_true h4]; rfl)
        rw [e1]
        clear h4 e1
        go_wp2_with (refine wpList_load_part rfl 31 (.tmp 4) rfl (w.heap.size + 1) 0 rfl (x.c p).toList _ S1.out.bt.bt0 Try.underlying31 rfl attr_size (x.v p) rfl ?_)
        refine (acheck_calls x p w1 S1.out.al HS.out).mono ?_
        rintro e w2 ⟨rfl, hb⟩
        have S2 := Lib.hid (S1.out.on hb)
        clear hb S1
        cases hm : amayB x
        all_goals
          rw [hm] at HV
          clear hm
          rw [show ckN _ = _ from rfl]
          go_wp2_with (fail)
          go_ret
          exact ⟨by rw [HK.out, HV.out]; rfl, S2.out.be⟩
set_option maxRecDepth 100000 in
set_option maxHeartbeats 4000000 in
theorem rbmay_calls (c : Cr) (A : Option Addr) (n : Nat) (x : At) (p : ALie) (k : Nat) (w : World) (hc : CLies w c A) (h : ALies w x p) (hs : ASm x) (hks : Ks x) :
    Calls Try.prog 28 #[c.v A n, x.v p, .int .u8 (k : Nat)] w fun e w' => e = .returned (.bool (begB c x k)) ∧ Below w.heap.size w w' := by
  obtain ⟨V, hV⟩ : ∃ V, V = (w.alloc (.cells (c.c A n) 25)).alloc (.cells (x.c p) 31) := ⟨_, rfl⟩
  have S0 : Hid (Pb w V c A n x p) := Lib.hid (by rw [hV]; exact Pb.start hc h)
  have HS := Lib.hid hs
  have HKS := Lib.hid hks
  have HR : Hid (begB c x k = (decide (c.gs.length ≤ 4) && amayB x && (decide (1 ≤ k) && decide (k ≤ 3)))) := Lib.hid rfl
  obtain ⟨r, hr⟩ : ∃ r, begB c x k = r := ⟨_, rfl⟩
  rw [hr] at HR ⊢
  have yc2 := S0.out.cb.c2
  have hsm := hc.sm
  obtain ⟨m, hm⟩ : ∃ m, c.gs.length = m := ⟨_, rfl⟩
  rw [hm] at yc2 HR hsm
  clear hc h hs hr hm hks
  by_cases h4 : m ≤ 4
  case neg =>
    have d1 : decide ((m : Int) ≤ 4) = false := by rw [decide_eq_false_iff_not]; omega
    have HF : Hid (r = false) := Lib.hid (by rw [HR.out, decide_eq_false h4]; rfl)
    clear h4 HR
    go_enter Try.func28, Try.ntmps28
    go_upto_region 1 with (fail)
    rw [← hV]
    clear hV
    go_wp2_with (fail)
    go_ret
    exact ⟨by rw [HF.out]; rfl, S0.out.be⟩
  case pos =>
    have d1 : decide ((m : Int) ≤ 4) = true := by rw [decide_eq_true_eq]; omega
    have HF : Hid (r = (amayB x && (decide (1 ≤ k) && decide (k ≤ 3)))) := Lib.hid (by rw [HR.out, decide_eq_true h4]; rfl)
    clear h4 HR
    go_enter Try.func28, Try.ntmps28
    go_upto_region 1 with (fail)
    rw [← hV]
    clear hV
    go_wp2_with (refine wpList_load_part rfl 31 (.tmp 4) rfl (w.heap.size + 1) 0 rfl (x.c p).toList _ S0.out.bt.bt0 Try.underlying31 rfl attr_size (x.v p) rfl ?_)
    refine (ramay_calls x p V S0.out.al HS.out HKS.out).mono ?_
    rintro e w2 ⟨rfl, hb⟩
    have S2 := Lib.hid (S0.out.on hb)
    clear hb S0 yc2
    cases hm : amayB x
    case false =>
      have HG : Hid (r = false) := Lib.hid (by rw [HF.out, hm]; rfl)
      clear hm HF
      go_wp2_with (fail)
      go_ret
      exact ⟨by rw [HG.out]; rfl, S2.out.be⟩
    case true =>
      have HG : Hid (r = (decide (1 ≤ k) && decide (k ≤ 3))) := Lib.hid (by rw [HF.out, hm]; rfl)
      clear hm HF
      by_cases h1 : 1 ≤ k
      case neg =>
        have d2 : decide ((1 : Int) ≤ (k : Int)) = false := by rw [decide_eq_false_iff_not]; omega
        have d2' : decide (1 ≤ k) = false := decide_eq_false h1
        rw [d2'] at HG
        clear h1
        go_wp2_with (fail)
        go_ret
        exact ⟨by rw [HG.out]; rfl, S2.out.be⟩
      case pos =>
        have d2 : decide ((1 : Int) ≤ (k : Int)) = true := by rw [decide_eq_true_eq]; omega
        have d2' : decide (1 ≤ k) = true := decide_eq_true h1
        rw [d2'] at HG
        have d3 : decide ((k : Int) ≤ 3) = decide (k ≤ 3) := by rw [Bool.eq_iff_iff, decide_eq_true_eq, decide_eq_true_eq]; omega
        generalize decide (k ≤ 3) = t at *
        clear h1
        go_wp2_with (fail)
        go_ret
        exact ⟨by rw [HG.out]; rfl, S2.out.be⟩
set_option maxRecDepth 100000 in
set_option maxHeartbeats 4000000 in
theorem group_calls (c : Cr) (A : Option Addr) (n : Nat) (x : At) (p : ALie) (w : World) (hb8 : x.bi < 8) :
    Calls Try.prog 23 #[c.v A n, x.v p] w fun e w' => e = .returned (.int .u16 (gidN c x : Nat)) ∧ Below w.heap.size w w' := by
  obtain ⟨V, hV⟩ : ∃ V, V = (w.alloc (.cells (c.c A n) 25)).alloc (.cells (x.c p) 31) := ⟨_, rfl⟩
  have HB : Hid (Below w.heap.size w V) := Lib.hid (by rw [hV]; exact below_a2 (Below.refl _ _))
  have hcb : Cb V w.heap.size c A n := by rw [hV]; exact (Cb.new w c A n).on ((Below.refl _ _).alloc (Nat.le_refl _) _)
  have hbt : Bt V (w.heap.size + 1) x p := by rw [hV]; have := Bt.new (w.alloc (.cells (c.c A n) 25)) x p; rwa [World.size_alloc] at this
  have y0 := hbt.c0
  have y2 := hbt.c2
  have z1 := hcb.c1
  have HG : Hid (gidN c x = if x.bi &&& 2 = 0 then c.gi else x.gi) := Lib.hid rfl
  have e0 : bits .and .u8 (x.bi : Int) 2 = ((x.bi &&& 2 : Nat) : Int) := and8 x.bi 2 (by omega) (by decide)
  generalize x.bi = bi at *
  generalize x.gi = xg at *
  generalize c.gi = cg at *
  clear hb8 hcb hbt
  by_cases h0 : bi &&& 2 = 0
  case pos =>
    have e1 : bits .and .u8 (bi : Int) 2 = 0 := by rw [e0, h0]; rfl
    have HV : Hid (gidN c x = cg) := Lib.hid (by rw [HG.out, if_pos h0])
    clear h0 e0 HG
    go_enter Try.func23, Try.ntmps23
    go_upto_region 1 with (fail)
    rw [← hV]
    clear hV
    go_wp2_with (fail)
    go_ret
    exact ⟨by rw [HV.out]; rfl, HB.out⟩
  case neg =>
    obtain ⟨j, hj⟩ : ∃ j, bi &&& 2 = j := ⟨_, rfl⟩
    rw [hj] at e0 h0
    have e2 : ((j : Int) != 0) = true := by rw [bne_iff_ne]; omega
    have e1 : bits .and .u8 (bi : Int) 2 = (j : Int) := e0
    have HV : Hid (gidN c x = xg) := Lib.hid (by rw [HG.out, if_neg (by rw [hj]; exact h0)])
    clear h0 e0 HG hj
    go_enter Try.func23, Try.ntmps23
    go_upto_region 1 with (fail)
    rw [← hV]
    clear hV
    go_wp2_with (fail)
    go_ret
    exact ⟨by rw [HV.out]; rfl, HB.out⟩
end Go.Proofs.Ytgdiiicaljidpaa
