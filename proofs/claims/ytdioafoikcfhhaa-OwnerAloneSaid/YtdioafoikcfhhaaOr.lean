/- The document's may, Owns. -/
import Derived.Test.YtdioafoikcfhhaaOq
set_option linter.unusedSimpArgs false
set_option linter.unusedVariables false
set_option linter.unusedSimpArgs false
set_option linter.unusedVariables false
namespace Go.Proofs.Ytdioafoikcfhhaa
open Go.RowKit
/-- Keys that are no longer than a statement looks at. -/
def Ks (x : At) : Prop := ∀ (k : Nat) q, x.xs[k]? = some q → q.key.size ≤ 1099511627776
set_option maxRecDepth 100000 in
set_option maxHeartbeats 4000000 in
theorem rmayo_calls (c : Cr) (A : Option Addr) (n : Nat) (x : At) (p : ALie) (w : World) (hc : CLies w c A) (h : ALies w x p) (hs : ASm x) (hk : Ks x) :
    Calls Try.prog 41 #[c.v A n, x.v p] w fun e w' => e = .returned (.bool (validB c x)) ∧ Below w.heap.size w w' := by
  obtain ⟨V, hV⟩ : ∃ V, V = (w.alloc (.cells (c.c A n) 25)).alloc (.cells (x.c p) 31) := ⟨_, rfl⟩
  have S0 : Hid (Pb w V c A n x p) := Lib.hid (by rw [hV]; exact Pb.start hc h)
  have HS := Lib.hid hs
  have HK := Lib.hid hk
  obtain ⟨r, hr⟩ : ∃ r, validB c x = r := ⟨_, rfl⟩
  rw [hr]
  have HR := Lib.hid hr
  clear hc h hs hr hk
  go_enter Try.func41, Try.ntmps41
  go_upto_region 1 with (fail)
  rw [← hV]
  clear hV
  have yc2 := S0.out.cb.c2
  obtain ⟨m, hm⟩ : ∃ m, c.gs.length = m := ⟨_, rfl⟩
  rw [hm] at yc2
  by_cases h4 : m ≤ 4
  case neg =>
    have HN : Hid (r = false) := Lib.hid (by rw [← HR.out]; unfold validB; rw [hm, decide_eq_false h4]; rfl)
    have d4 : decide ((m : Int) ≤ 4) = false := by rw [decide_eq_false_iff_not]; omega
    have d4' : decide (m ≤ 4) = false := decide_eq_false h4
    clear h4 hm HR
    go_wp2_with (fail)
    go_ret
    exact ⟨by rw [HN.out]; rfl, S0.out.be⟩
  case pos =>
    have HN : Hid (r = amayB x) := Lib.hid (by rw [← HR.out]; unfold validB; rw [hm, decide_eq_true h4]; rfl)
    have d4 : decide ((m : Int) ≤ 4) = true := by rw [decide_eq_true_eq]; omega
    have d4' : decide (m ≤ 4) = true := decide_eq_true h4
    clear h4 hm HR
    go_wp2_with (refine wpList_load_part rfl 31 (.tmp 3) rfl (w.heap.size + 1) 0 rfl (At.c x p).toList _ (S0.out.bt).bt0 Try.underlying31 rfl attr_size (At.v x p) rfl ?_)
    refine (ramay_calls x p V S0.out.al HS.out HK.out).mono ?_
    rintro e w2 ⟨rfl, hb⟩
    have S2 := Lib.hid (S0.out.on hb)
    clear hb S0 yc2
    generalize amayB x = t at *
    go_wp2_with (fail)
    go_ret
    exact ⟨by rw [HN.out]; rfl, S2.out.be⟩
set_option maxRecDepth 100000 in
set_option maxHeartbeats 4000000 in
theorem rownso_calls (c : Cr) (A : Option Addr) (n : Nat) (x : At) (p : ALie) (w : World) (hc : CLies w c A) (h : ALies w x p) (hs : ASm x) (hk : Ks x) :
    Calls Try.prog 17 #[c.v A n, x.v p] w fun e w' => e = .returned (.bool (ownB c x)) ∧ Below w.heap.size w w' := by
  obtain ⟨V, hV⟩ : ∃ V, V = (w.alloc (.cells (c.c A n) 25)).alloc (.cells (x.c p) 31) := ⟨_, rfl⟩
  have S0 : Hid (Pb w V c A n x p) := Lib.hid (by rw [hV]; exact Pb.start hc h)
  have HS := Lib.hid hs
  have HK := Lib.hid hk
  obtain ⟨r, hr⟩ : ∃ r, ownB c x = r := ⟨_, rfl⟩
  rw [hr]
  have HR := Lib.hid hr
  clear hc h hs hr hk
  go_enter Try.func17, Try.ntmps17
  go_upto_region 1 with (fail)
  rw [← hV]
  clear hV
  go_wp2_with (first
  | (refine wpList_load_part rfl 25 (.tmp 2) rfl w.heap.size 0 rfl (Cr.c c A n).toList _ (S0.out.cb).all Try.underlying25 rfl cred_size (Cr.v c A n) rfl ?_)
  | (refine wpList_load_part rfl 31 (.tmp 3) rfl (w.heap.size + 1) 0 rfl (At.c x p).toList _ (S0.out.bt).bt0 Try.underlying31 rfl attr_size (At.v x p) rfl ?_))
  refine (rmayo_calls c A n x p V S0.out.cl S0.out.al HS.out HK.out).mono ?_
  rintro e w1 ⟨rfl, hb⟩
  have S1 := Lib.hid (S0.out.on hb)
  clear hb S0
  cases hv : validB c x
  case false =>
    have HN : Hid (r = false) := Lib.hid (by rw [← HR.out]; unfold ownB; rw [hv]; rfl)
    clear hv HR
    go_wp2_with (fail)
    go_ret
    exact ⟨by rw [HN.out]; rfl, S1.out.be⟩
  case true =>
  have yc0 := S1.out.cb.c0
  have y1 := S1.out.bt.c1
  obtain ⟨z, hz⟩ : ∃ z, c.ui = z := ⟨_, rfl⟩
  rw [hz] at yc0
  have HN : Hid (r = (decide (z = 0) || decide (z = x.ui))) := Lib.hid (by rw [← HR.out]; unfold ownB ownsB; rw [hv, hz]; rfl)
  clear hv HR hz
  by_cases h0 : z = 0
  case pos =>
    have d0 : ((z : Int) == 0) = true := by rw [h0]; rfl
    have HN2 : Hid (r = true) := Lib.hid (by rw [HN.out, decide_eq_true h0]; rfl)
    clear h0 HN
    go_wp2_with (fail)
    go_ret
    exact ⟨by rw [HN2.out]; rfl, S1.out.be⟩
  case neg =>
    have d0 : ((z : Int) == 0) = false := by rw [beq_eq_false_iff_ne]; omega
    have d1 : ((z : Int) == (x.ui : Int)) = decide (z = x.ui) := by rw [Bool.eq_iff_iff, beq_iff_eq, decide_eq_true_eq]; omega
    have HN2 : Hid (r = decide (z = x.ui)) := Lib.hid (by rw [HN.out, decide_eq_false h0]; rfl)
    clear h0 HN
    generalize decide (z = x.ui) = t at *
    go_wp2_with (fail)
    go_ret
    exact ⟨by rw [HN2.out]; rfl, S1.out.be⟩
end Go.Proofs.Ytdioafoikcfhhaa
