/- The bits of what is begun, by the program. -/
import Derived.Test.YtgdiiicaljidpaaQc
set_option linter.unusedSimpArgs false
set_option linter.unusedVariables false
set_option linter.unusedSimpArgs false
set_option linter.unusedVariables false
namespace Go.Proofs.Ytgdiiicaljidpaa
open Go.RowKit Go.Sort Go.Lib
theorem and7b (m : Nat) (hm : m < 65536) : bits .and .u8 ((m : Int) / 512 % 256) 7 = ((m / 512 % 8 : Nat) : Int) := by
  have e0 : ((m / 512 % 256 : Nat) : Int) = (m : Int) / 512 % 256 := by omega
  rw [← e0, and7 _ (by omega)]
  congr 1
  omega
theorem off8' (k : Nat) (hk : k = 1 ∨ k = 2 ∨ k = 4) (a : Nat) (ha : a < 8) : bits .andNot .u8 (a : Int) (k : Int) = ((offN a k : Nat) : Int) := off8 k hk a (by omega)
set_option maxRecDepth 100000 in
set_option maxHeartbeats 4000000 in
theorem bitsof_calls (c : Cr) (A : Option Addr) (n : Nat) (x : At) (p : ALie) (k g m : Nat) (w : World) (hc : CLies w c A) (h : ALies w x p) (hb8 : x.bi < 8) (hm6 : m < 65536) :
    Calls Try.prog 27 #[c.v A n, x.v p, .int .u8 (k : Nat), .int .u16 (g : Nat), .int .u16 (m : Nat)] w fun e w' => e = .returned (.int .u8 (setB c x k g m : Nat)) ∧ Below w.heap.size w w' := by
  obtain ⟨V, hV⟩ : ∃ V, V = (w.alloc (.cells (c.c A n) 25)).alloc (.cells (x.c p) 31) := ⟨_, rfl⟩
  have S0 : Hid (Pb w V c A n x p) := Lib.hid (by rw [hV]; exact Pb.start hc h)
  have y0 := S0.out.bt.c0
  have z0 := S0.out.cb.c0
  obtain ⟨r, hr⟩ : ∃ r, setB c x k g m = r := ⟨_, rfl⟩
  have HR : Hid (r = if k = 2 then (m / 512 % 8 &&& 1) ||| (x.bi &&& 2) else if (decide (c.ui = 0) || inB c g) then m / 512 % 8 else offN (m / 512 % 8) 2) := Lib.hid hr.symm
  rw [hr]
  have f1 := and7b m hm6
  have h8 : m / 512 % 8 < 8 := Nat.mod_lt _ (by decide)
  have f2 : (m : Int) / 512 % 256 % 8 = ((m / 512 % 8 : Nat) : Int) := by omega
  have f3 : (m : Int) / 512 % 8 = ((m / 512 % 8 : Nat) : Int) := by omega
  generalize m / 512 % 8 = b at *
  generalize x.bi = bi at *
  generalize c.ui = cu at *
  clear hc h hr
  by_cases hk : k = 2
  case pos =>
    have e2 : ((k : Int) == 2) = true := by rw [hk]; rfl
    have HV : Hid (r = (b &&& 1) ||| (bi &&& 2)) := Lib.hid (by rw [HR.out, if_pos hk])
    have a1 : bits .and .u8 (b : Int) 1 = ((b &&& 1 : Nat) : Int) := and8 b 1 (by omega) (by decide)
    have a2 : bits .and .u8 (bi : Int) 2 = ((bi &&& 2 : Nat) : Int) := and8 bi 2 (by omega) (by decide)
    have a3 : bits .or .u8 ((b &&& 1 : Nat) : Int) ((bi &&& 2 : Nat) : Int) = (((b &&& 1) ||| (bi &&& 2) : Nat) : Int) := or8 (b &&& 1) (bi &&& 2) (by have := and_le b 1; omega) (by have := and_le bi 2; omega)
    generalize b &&& 1 = b1 at *
    generalize bi &&& 2 = b2 at *
    generalize b1 ||| b2 = b3 at *
    clear hk HR
    go_enter Try.func27, Try.ntmps27
    go_upto_region 1 with (fail)
    rw [← hV]
    clear hV
    go_wp2_with (fail)
    go_ret
    exact ⟨by rw [HV.out]; rfl, S0.out.be⟩
  case neg =>
    have e2 : ((k : Int) == 2) = false := by rw [beq_eq_false_iff_ne]; omega
    have HV1 := Lib.hid (HR.out.trans (if_neg hk))
    clear hk HR y0
    by_cases h0 : cu = 0
    case pos =>
      have d0 : ((cu : Int) != 0) = false := by rw [bne_eq_false_iff_eq]; omega
      have HV : Hid (r = b) := Lib.hid (by rw [HV1.out, decide_eq_true h0]; rfl)
      clear h0 HV1
      go_enter Try.func27, Try.ntmps27
      go_upto_region 1 with (fail)
      rw [← hV]
      clear hV
      go_wp2_with (fail)
      go_ret
      exact ⟨by rw [HV.out, ← f3]; rfl, S0.out.be⟩
    case neg =>
      have d0 : ((cu : Int) != 0) = true := by rw [bne_iff_ne]; omega
      have HV2 : Hid (r = if inB c g then b else offN b 2) := Lib.hid (by rw [HV1.out, decide_eq_false h0]; rfl)
      clear h0 HV1
      go_enter Try.func27, Try.ntmps27
      go_upto_region 1 with (fail)
      rw [← hV]
      clear hV
      go_wp2_with (refine wpList_load_part rfl 25 (.tmp 5) rfl w.heap.size 0 rfl (c.c A n).toList _ S0.out.cb.all Try.underlying25 rfl cred_size (c.v A n) rfl ?_)
      refine (in_calls c A n g V S0.out.cl).mono ?_
      rintro e w1 ⟨rfl, hb⟩
      have S1 := Lib.hid (S0.out.on hb)
      clear hb S0 z0
      cases hi : inB c g
      case true =>
        have HV : Hid (r = b) := Lib.hid (by rw [HV2.out, hi]; rfl)
        clear hi HV2
        go_wp2_with (fail)
        go_ret
        exact ⟨by rw [HV.out, ← f3]; rfl, S1.out.be⟩
      case false =>
        have HV : Hid (r = offN b 2) := Lib.hid (by rw [HV2.out, hi]; rfl)
        have a1 : bits .andNot .u8 (b : Int) 2 = ((offN b 2 : Nat) : Int) := off8' 2 (by decide) b h8
        generalize offN b 2 = b1 at *
        clear hi HV2
        go_wp2_with (fail)
        go_ret
        exact ⟨by rw [HV.out]; rfl, S1.out.be⟩
end Go.Proofs.Ytgdiiicaljidpaa
