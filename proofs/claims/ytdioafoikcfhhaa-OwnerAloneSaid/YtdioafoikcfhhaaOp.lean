/- The program's Owns. -/
import Derived.Test.YtdioafoikcfhhaaOo
set_option linter.unusedSimpArgs false
set_option linter.unusedVariables false
set_option linter.unusedSimpArgs false
set_option linter.unusedVariables false
namespace Go.Proofs.Ytdioafoikcfhhaa
open Go.RowKit
def ownB (c : Cr) (x : At) : Bool := validB c x && ownsB c x
set_option maxRecDepth 100000 in
set_option maxHeartbeats 4000000 in
theorem ownso_calls (c : Cr) (A : Option Addr) (n : Nat) (x : At) (p : ALie) (w : World) (hc : CLies w c A) (h : ALies w x p) (hs : ASm x) :
    Calls Try.prog 16 #[c.v A n, x.v p] w fun e w' => e = .returned (.bool (ownB c x)) ∧ Below w.heap.size w w' := by
  obtain ⟨V, hV⟩ : ∃ V, V = (w.alloc (.cells (c.c A n) 25)).alloc (.cells (x.c p) 31) := ⟨_, rfl⟩
  have S0 : Hid (Pb w V c A n x p) := Lib.hid (by rw [hV]; exact Pb.start hc h)
  have HS := Lib.hid hs
  obtain ⟨r, hr⟩ : ∃ r, ownB c x = r := ⟨_, rfl⟩
  rw [hr]
  have HR := Lib.hid hr
  clear hc h hs hr
  go_enter Try.func16, Try.ntmps16
  go_upto_region 1 with (fail)
  rw [← hV]
  clear hV
  go_wp2_with (first
  | (refine wpList_load_part rfl 25 (.tmp 2) rfl w.heap.size 0 rfl (Cr.c c A n).toList _ (S0.out.cb).all Try.underlying25 rfl cred_size (Cr.v c A n) rfl ?_)
  | (refine wpList_load_part rfl 31 (.tmp 3) rfl (w.heap.size + 1) 0 rfl (At.c x p).toList _ (S0.out.bt).bt0 Try.underlying31 rfl attr_size (At.v x p) rfl ?_))
  refine (ovalid_calls c A n x p V S0.out.cl S0.out.al HS.out).mono ?_
  rintro e w1 ⟨rfl, hb⟩
  have S1 := Lib.hid (S0.out.on hb)
  clear hb S0
  cases hv : validB c x
  case false =>
    have HN : Hid (r = false) := Lib.hid (by rw [← HR.out]; unfold ownB; rw [hv]; rfl)
    clear hv HR
    go_wp2_with (fail)
    go_ret
    exact ⟨by rw [HN.out]; rfl, S1.out.be⟩
  case true =>
    have HN : Hid (r = ownsB c x) := Lib.hid (by rw [← HR.out]; unfold ownB; rw [hv]; rfl)
    clear hv HR
    go_wp2_with (first
  | (refine wpList_load_part rfl 25 (.tmp 2) rfl w.heap.size 0 rfl (Cr.c c A n).toList _ (S1.out.cb).all Try.underlying25 rfl cred_size (Cr.v c A n) rfl ?_)
  | (refine wpList_load_part rfl 31 (.tmp 3) rfl (w.heap.size + 1) 0 rfl (At.c x p).toList _ (S1.out.bt).bt0 Try.underlying31 rfl attr_size (At.v x p) rfl ?_))
    refine (owns_calls c A n x p w1).mono ?_
    rintro e w2 ⟨rfl, hb⟩
    have S2 := Lib.hid (S1.out.on hb)
    clear hb S1
    generalize ownsB c x = t at *
    go_wp2_with (fail)
    go_ret
    exact ⟨by rw [HN.out]; rfl, S2.out.be⟩
end Go.Proofs.Ytdioafoikcfhhaa
