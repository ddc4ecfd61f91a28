/- Functions that are handed functions: is one of these enough? Which perms are for the process? -/
import Derived.Test.YtejhodjbgablaaaGb
set_option linter.unusedSimpArgs false
set_option linter.unusedVariables false
namespace Go.Proofs.Ytejhodjbgablaaa
open Go.RowKit
abbrev may1F (b : Nat) : Value := .func (.func 25) #[] #[.pointer (some ⟨b, 0, none⟩)]
abbrev hasF (q : Nat) : Nat → Bool := fun p => hasB p q
set_option maxRecDepth 100000 in
set_option maxHeartbeats 4000000 in
theorem indexf_calls (A : Option Addr) (l : List Nat) (c b q : Nat) (w : World) (h : Cel w A (bv l)) (hl : l.length ≤ 9223372036854775807) (h8 : ∀ p ∈ l, p < 256) (hq : q < 256) (hb : w.cell? ⟨b, 0, none⟩ = some (.int .u8 (q : Nat))) :
    Calls Try.prog 36 #[.slice A l.length c, may1F b] w fun e w' => ∃ r : Int, e = .returned (.int .i64 r) ∧ decide (0 ≤ r) = l.any (hasF q) ∧ w' = w := by
  obtain ⟨n, hn⟩ : ∃ n, l.length = n := ⟨_, rfl⟩
  rw [hn] at hl ⊢
  have HN := Lib.hid hn
  have HC := Lib.hid h
  have HF : Hid (∀ p ∈ l, Calls Try.prog 25 #[.int .u8 (p : Nat), .pointer (some ⟨b, 0, none⟩)] w fun e w' => e = .returned (.bool (hasB p q)) ∧ w' = w) := Lib.hid (fun p hp => may1_calls b p q w (h8 p hp) hq hb)
  clear hn h h8 hb
  go_enter Try.func36, Try.ntmps36
  go_wp2_with (fail)
  go_loopw [8] (fun i wr => ∃ k : Nat, i = .int .i64 k ∧ k ≤ n ∧ Hid (∀ (j : Nat) p, j < k → l[j]? = some p → hasB p q = false) ∧ wr = w) (fun i _ => n - (intOf i).toNat)
  case atStart => exact ⟨0, rfl, by omega, Lib.hid (fun j q hj => absurd hj (Nat.not_lt_zero _)), rfl⟩
  case round =>
    obtain ⟨k, rfl, hk, hR, rfl⟩ := hrel
    by_cases hkn : k < n
    · obtain ⟨b1, o, rfl, hlt, hcell⟩ := HC.out.at0 (by rw [bv_length, HN.out]; omega)
      obtain ⟨r, hp⟩ : ∃ r, l[k]? = some r := ⟨_, List.getElem?_eq_getElem (by rw [HN.out]; exact hkn)⟩
      have e1 := hcell k _ (bv_get hp)
      have HP := Lib.hid hp
      have HK := Lib.hid (HF.out r (List.mem_of_getElem? hp))
      clear hp hcell
      go_wp2_with (fail)
      refine HK.out.mono ?_
      rintro e w' ⟨rfl, rfl⟩
      clear HK
      cases hrg : hasB r q
      case true =>
        have HG : Hid (l.any (hasF q) = true) := Lib.hid (List.any_eq_true.2 ⟨r, List.mem_of_getElem? HP.out, hrg⟩)
        clear hrg
        go_wp2_with (fail)
        go_ret
        exact ⟨(k : Int), rfl, by rw [HG.out]; exact decide_eq_true (by omega), rfl⟩
      case false =>
        have HR2 : Hid (∀ (j : Nat) p, j < k + 1 → l[j]? = some p → hasB p q = false) := Lib.hid fun j p hj hq => by
          by_cases hh : j < k
          · exact hR.out j p hh hq
          · obtain rfl : j = k := by omega
            rw [HP.out] at hq
            cases hq
            exact hrg
        clear hrg
        go_wp2_with (fail)
        go_roundw
        case rel => exact ⟨k + 1, by go_num, by omega, HR2, trivial⟩
        case measure => simp [intOf]; omega
    · obtain rfl : k = n := by omega
      have HG : Hid (l.any (hasF q) = false) := Lib.hid (List.any_eq_false.2 fun p hp => by
        obtain ⟨j, hj⟩ := List.getElem?_of_mem hp
        have := hR.out j p (by rw [← HN.out]; exact (List.getElem?_eq_some_iff.1 hj).1) hj
        unfold hasF
        rw [this]
        simp)
      go_wp2_with (fail)
      go_ret
      exact ⟨-1, rfl, by rw [HG.out]; rfl, rfl⟩
set_option maxRecDepth 100000 in
theorem containsf_calls (A : Option Addr) (l : List Nat) (c b q : Nat) (w : World) (h : Cel w A (bv l)) (hl : l.length ≤ 9223372036854775807) (h8 : ∀ p ∈ l, p < 256) (hq : q < 256) (hb : w.cell? ⟨b, 0, none⟩ = some (.int .u8 (q : Nat))) :
    Calls Try.prog 23 #[.slice A l.length c, may1F b] w fun e w' => e = .returned (.bool (l.any (hasF q))) ∧ w' = w := by
  have HI := Lib.hid (indexf_calls A l c b q w h hl h8 hq hb)
  clear h hb
  go_enter Try.func23, Try.ntmps23
  go_wp2_with (fail)
  refine HI.out.mono ?_
  rintro e w' ⟨r, rfl, hr, rfl⟩
  have HR := Lib.hid hr
  clear hr HI
  go_wp2_with (fail)
  go_ret
  exact ⟨by rw [HR.out]; rfl, rfl⟩
end Go.Proofs.Ytejhodjbgablaaa
