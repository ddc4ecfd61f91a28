/- What is refused ends the call; who owns; what may be told of a new owner. -/
import Derived.Test.YtdioafoikcfhhaaOb
import Derived.WalkLawsBesides
import Derived.Defers
import Derived.Recover
set_option linter.unusedSimpArgs false
set_option linter.unusedVariables false
set_option linter.unusedSimpArgs false
set_option linter.unusedVariables false
namespace Go.Proofs.Ytdioafoikcfhhaa
open Go.RowKit
/-- A panic with this error. -/
abbrev raisesV (n : Int) : Value := .iface 35 (.int .i64 n)
abbrev raises (n : Int) : Ending := .panicked [{ v := raisesV n, recovered := false }]
set_option maxRecDepth 100000 in
theorem need_ok (n : Int) (w : World) : Calls Try.prog 37 #[.bool true, .int .i64 n] w fun e w' => e = .returned (.tuple #[]) ∧ w' = w := by
  go_enter Try.func37, Try.ntmps37
  go_wp2
  go_end0
  exact ⟨rfl, rfl⟩
set_option maxRecDepth 100000 in
theorem need_no (n : Int) (w : World) : Calls Try.prog 37 #[.bool false, .int .i64 n] w fun e w' => e = raises n ∧ w' = w := by
  go_enter Try.func37, Try.ntmps37
  go_wp2
  exact ⟨rfl, rfl, rfl⟩
set_option maxRecDepth 100000 in
theorem maybe_calls (i : Int) (w : World) : Calls Try.prog 44 #[.int .i64 i] w fun e w' => e = .returned (.bool (idB i)) ∧ w' = w := by
  unfold idB
  by_cases h1 : -1 ≤ i
  · have d1 : decide (-1 ≤ i) = true := decide_eq_true h1
    rw [d1]
    go_enter Try.func44, Try.ntmps44
    go_wp2
    go_ret
    exact ⟨rfl, rfl⟩
  · have d1 : decide (-1 ≤ i) = false := decide_eq_false h1
    rw [d1]
    go_enter Try.func44, Try.ntmps44
    go_wp2
    go_ret
    exact ⟨rfl, rfl⟩
set_option maxRecDepth 100000 in
theorem become_calls (i : Int) (o : Nat) (w : World) (hi : idB i = true) : Calls Try.prog 45 #[.int .i64 i, .int .u16 (o : Nat)] w fun e w' => e = .returned (.int .u16 (becN i o : Nat)) ∧ w' = w := by
  unfold idB at hi
  rw [Bool.and_eq_true, decide_eq_true_eq, decide_eq_true_eq] at hi
  unfold becN
  by_cases h1 : i = -1
  · rw [if_pos h1]
    have d1 : (i == -1) = true := by rw [h1]; rfl
    clear h1 hi
    go_enter Try.func45, Try.ntmps45
    go_wp2
    go_ret
    exact ⟨rfl, rfl⟩
  · rw [if_neg h1]
    have d1 : (i == -1) = false := by rw [beq_eq_false_iff_ne]; exact h1
    obtain ⟨k, rfl⟩ := Int.eq_ofNat_of_zero_le (show 0 ≤ i by omega)
    have hk : (k : Int) % 65536 = (k : Int) := by omega
    have h2 : ((k : Int)).toNat = k := rfl
    clear h1 hi
    go_enter Try.func45, Try.ntmps45
    go_wp2
    go_ret
    exact ⟨rfl, rfl⟩
set_option maxRecDepth 100000 in
set_option maxHeartbeats 4000000 in
theorem owns_calls (c : Cr) (A : Option Addr) (n : Nat) (x : At) (p : ALie) (w : World) :
    Calls Try.prog 38 #[c.v A n, x.v p] w fun e w' => e = .returned (.bool (ownsB c x)) ∧ Below w.heap.size w w' := by
  have HB := Lib.hid (below_a2 (o := .cells (c.c A n) 25) (o' := .cells (x.c p) 31) (Below.refl w.heap.size w))
  obtain ⟨ui, gi, gs, hi⟩ := c
  obtain ⟨bi, vi, xg, ac, hd, df, xs⟩ := x
  unfold ownsB
  by_cases h0 : ui = 0
  · have d0 : ((ui : Int) == 0) = true := by rw [h0]; rfl
    have e0 : decide (ui = 0) = true := decide_eq_true h0
    show Calls _ _ _ _ fun e w' => e = .returned (.bool (decide (ui = 0) || decide (ui = vi))) ∧ _
    rw [e0]
    clear h0 e0
    go_enter Try.func38, Try.ntmps38
    go_wp2
    go_ret
    exact ⟨rfl, HB.out⟩
  · have d0 : ((ui : Int) == 0) = false := by rw [beq_eq_false_iff_ne]; omega
    have e0 : decide (ui = 0) = false := decide_eq_false h0
    show Calls _ _ _ _ fun e w' => e = .returned (.bool (decide (ui = 0) || decide (ui = vi))) ∧ _
    rw [e0]
    clear h0 e0
    have d1 : ((ui : Int) == (vi : Int)) = decide (ui = vi) := by rw [Bool.eq_iff_iff, beq_iff_eq, decide_eq_true_eq]; omega
    generalize decide (ui = vi) = t at *
    go_enter Try.func38, Try.ntmps38
    go_wp2
    go_ret
    exact ⟨rfl, HB.out⟩
set_option maxRecDepth 100000 in
set_option maxHeartbeats 4000000 in
theorem ovalid_calls (c : Cr) (A : Option Addr) (n : Nat) (x : At) (p : ALie) (w : World) (hc : CLies w c A) (h : ALies w x p) (hs : ASm x) :
    Calls Try.prog 50 #[c.v A n, x.v p] w fun e w' => e = .returned (.bool (validB c x)) ∧ Below w.heap.size w w' := by
  obtain ⟨V, hV⟩ : ∃ V, V = (w.alloc (.cells (c.c A n) 25)).alloc (.cells (x.c p) 31) := ⟨_, rfl⟩
  have S0 : Hid (Pb w V c A n x p) := Lib.hid (by rw [hV]; exact Pb.start hc h)
  have HS := Lib.hid hs
  clear hc h hs
  go_enter Try.func50, Try.ntmps50
  go_upto_region 1 with (fail)
  rw [← hV]
  clear hV
  go_wp2_with (refine wpList_load_part rfl 25 (.tmp 2) rfl w.heap.size 0 rfl (c.c A n).toList _ S0.out.cb.all Try.underlying25 rfl cred_size (c.v A n) rfl ?_)
  refine (gcheck_calls c A n V S0.out.cl.sm).mono ?_
  rintro e w1 ⟨rfl, hb⟩
  have S1 := Lib.hid (S0.out.on hb)
  clear hb S0
  by_cases h4 : c.gs.length ≤ 4
  case neg =>
    have e1 : chkN c = 622 := by unfold chkN; rw [if_neg h4]
    have HV : Hid (validB c x = false) := Lib.hid (by unfold validB; rw [decide_eq_false h4]; rfl)
    rw [e1]
    clear h4 e1
    go_wp2_with (fail)
    go_ret
    exact ⟨by rw [HV.out]; rfl, S1.out.be⟩
  case pos =>
    have e1 : chkN c = 0 := by unfold chkN; rw [if_pos h4]
    have HV : Hid (validB c x = amayB x) := Lib.hid (by unfold validB; rw [decide_eq_true h4]; rfl)
    rw [e1]
    clear h4 e1
    go_wp2_with (refine wpList_load_part rfl 31 (.tmp 3) rfl (w.heap.size + 1) 0 rfl (x.c p).toList _ S1.out.bt.bt0 Try.underlying31 rfl attr_size (x.v p) rfl ?_)
    refine (acheck_calls x p w1 S1.out.al HS.out).mono ?_
    rintro e w2 ⟨rfl, hb⟩
    have S2 := Lib.hid (S1.out.on hb)
    clear hb S1
    cases hm : amayB x
    all_goals
      rw [hm] at HV
      clear hm
      rw [show ckN _ = _ from rfl]
      go_wp2_with (fail)
      go_ret
      exact ⟨by rw [HV.out]; rfl, S2.out.be⟩
end Go.Proofs.Ytdioafoikcfhhaa
