/- Granted or not: the smallest parts. -/
import Derived.Test.YtejhodjbgablaaaGm
set_option linter.unusedSimpArgs false
set_option linter.unusedVariables false
namespace Go.Proofs.Ytejhodjbgablaaa
open Go.RowKit
theorem and8 (a b : Nat) (ha : a < 256) (hb : b < 256) : bits .and .u8 (a : Int) (b : Int) = ((a &&& b : Nat) : Int) := (bits_nat .u8 8 (by decide) wraps_u8 a b ha hb).1
theorem or8 (a b : Nat) (ha : a < 256) (hb : b < 256) : bits .or .u8 (a : Int) (b : Int) = ((a ||| b : Nat) : Int) := (bits_nat .u8 8 (by decide) wraps_u8 a b ha hb).2
theorem has8 (p q : Nat) (hp : p < 256) (hq : q < 256) : (bits .and .u8 (p : Int) (q : Int) == (q : Int)) = hasB p q := by
  rw [and8 p q hp hq]
  unfold hasB
  rw [Bool.eq_iff_iff, beq_iff_eq, decide_eq_true_eq]
  exact Int.ofNat_inj
theorem grants_calls (p q : Nat) (w : World) (hp : p < 256) (hq : q < 256) : Calls Try.prog 26 #[.int .u8 (p : Nat), .int .u8 (q : Nat)] w fun e w' => e = .returned (.bool (hasB p q)) ∧ w' = w := by
  have h := Lib.hid (has8 p q hp hq)
  go_enter Try.func26, Try.ntmps26
  go_wp2_with (fail)
  go_ret
  exact ⟨by rw [h.out]; rfl, rfl⟩
theorem has_calls (p q : Nat) (w : World) (hp : p < 256) (hq : q < 256) : Calls Try.prog 43 #[.int .u8 (p : Nat), .int .u8 (q : Nat)] w fun e w' => e = .returned (.bool (hasB p q)) ∧ w' = w := by
  have h := Lib.hid (has8 p q hp hq)
  go_enter Try.func43, Try.ntmps43
  go_wp2_with (fail)
  go_ret
  exact ⟨by rw [h.out]; rfl, rfl⟩
/-- Rows of groups, rows of perms. -/
def hv (l : List Nat) : List Value := l.map fun (x : Nat) => Value.int .u16 (x : Int)
def bv (l : List Nat) : List Value := l.map fun (x : Nat) => Value.int .u8 (x : Int)
theorem hv_length (l : List Nat) : (hv l).length = l.length := by simp [hv]
theorem bv_length (l : List Nat) : (bv l).length = l.length := by simp [bv]
theorem hv_get {l : List Nat} {k x : Nat} (h : l[k]? = some x) : (hv l)[k]? = some (.int .u16 (x : Int)) := by simp [hv, h]
theorem bv_get {l : List Nat} {k x : Nat} (h : l[k]? = some x) : (bv l)[k]? = some (.int .u8 (x : Int)) := by simp [bv, h]
theorem hv_one (l : List Nat) : ∀ u ∈ hv l, u.oneCell' = true := by
  intro u hu
  simp only [hv, List.mem_map] at hu
  obtain ⟨x, _, rfl⟩ := hu
  rfl
theorem bv_one (l : List Nat) : ∀ u ∈ bv l, u.oneCell' = true := by
  intro u hu
  simp only [bv, List.mem_map] at hu
  obtain ⟨x, _, rfl⟩ := hu
  rfl
theorem bv_append (l m : List Nat) : bv (l ++ m) = bv l ++ bv m := by simp [bv]
theorem hv_append (l m : List Nat) : hv (l ++ m) = hv l ++ hv m := by simp [hv]
abbrev sameN (g : Nat) : Nat → Bool := fun h => decide (h = g)
set_option maxRecDepth 100000 in
set_option maxHeartbeats 4000000 in
theorem index_calls (A : Option Addr) (l : List Nat) (c g : Nat) (w : World) (h : Cel w A (hv l)) (hl : l.length ≤ 9223372036854775807) :
    Calls Try.prog 34 #[.slice A l.length c, .int .u16 (g : Nat)] w fun e w' => ∃ r : Int, e = .returned (.int .i64 r) ∧ decide (0 ≤ r) = l.any (sameN g) ∧ w' = w := by
  obtain ⟨n, hn⟩ : ∃ n, l.length = n := ⟨_, rfl⟩
  rw [hn] at hl ⊢
  have HN := Lib.hid hn
  have HC := Lib.hid h
  clear hn h
  go_enter Try.func34, Try.ntmps34
  go_wp2_with (fail)
  go_loopw [8] (fun i wr => ∃ k : Nat, i = .int .i64 k ∧ k ≤ n ∧ Hid (∀ (j : Nat) q, j < k → l[j]? = some q → ¬ q = g) ∧ wr = w) (fun i _ => n - (intOf i).toNat)
  case atStart => exact ⟨0, rfl, by omega, Lib.hid (fun j q hj => absurd hj (Nat.not_lt_zero _)), rfl⟩
  case round =>
    obtain ⟨k, rfl, hk, hR, rfl⟩ := hrel
    by_cases hkn : k < n
    · obtain ⟨b, o, rfl, hlt, hcell⟩ := HC.out.at0 (by rw [hv_length, HN.out]; omega)
      obtain ⟨r, hp⟩ : ∃ r, l[k]? = some r := ⟨_, List.getElem?_eq_getElem (by rw [HN.out]; exact hkn)⟩
      have e1 := hcell k _ (hv_get hp)
      have HP := Lib.hid hp
      clear hp hcell
      by_cases hrg : r = g
      · have d1 : ((g : Int) == (r : Int)) = true := by rw [hrg]; exact beq_self_eq_true _
        have HF : Hid (l.any (sameN g) = true) := Lib.hid (List.any_eq_true.2 ⟨r, List.mem_of_getElem? HP.out, decide_eq_true hrg⟩)
        clear hrg
        go_wp2_with (fail)
        go_ret
        exact ⟨(k : Int), rfl, by rw [HF.out]; exact decide_eq_true (by omega), rfl⟩
      · have d1 : ((g : Int) == (r : Int)) = false := by
          rw [beq_eq_false_iff_ne]
          intro e
          exact hrg (Int.ofNat_inj.1 e).symm
        have HR2 : Hid (∀ (j : Nat) q, j < k + 1 → l[j]? = some q → ¬ q = g) := Lib.hid fun j q hj hq => by
          by_cases hh : j < k
          · exact hR.out j q hh hq
          · obtain rfl : j = k := by omega
            rw [HP.out] at hq
            cases hq
            exact hrg
        clear hrg
        go_wp2_with (fail)
        go_roundw
        case rel => exact ⟨k + 1, by go_num, by omega, HR2, trivial⟩
        case measure => simp [intOf]; omega
    · obtain rfl : k = n := by omega
      have HF : Hid (l.any (sameN g) = false) := Lib.hid (List.any_eq_false.2 fun q hq => by
        obtain ⟨j, hj⟩ := List.getElem?_of_mem hq
        have := hR.out j q (by rw [← HN.out]; exact (List.getElem?_eq_some_iff.1 hj).1) hj
        unfold sameN
        simpa using this)
      go_wp2_with (fail)
      go_ret
      exact ⟨-1, rfl, by rw [HF.out]; rfl, rfl⟩
set_option maxRecDepth 100000 in
theorem contains_calls (A : Option Addr) (l : List Nat) (c g : Nat) (w : World) (h : Cel w A (hv l)) (hl : l.length ≤ 9223372036854775807) :
    Calls Try.prog 21 #[.slice A l.length c, .int .u16 (g : Nat)] w fun e w' => e = .returned (.bool (l.any (sameN g))) ∧ w' = w := by
  have HI := Lib.hid (index_calls A l c g w h hl)
  clear h
  go_enter Try.func21, Try.ntmps21
  go_wp2_with (fail)
  refine HI.out.mono ?_
  rintro e w' ⟨r, rfl, hr, rfl⟩
  have HR := Lib.hid hr
  clear hr HI
  go_wp2_with (fail)
  go_ret
  exact ⟨by rw [HR.out]; rfl, rfl⟩
set_option maxRecDepth 100000 in
set_option maxHeartbeats 4000000 in
theorem together_calls (A : Option Addr) (l : List Nat) (c : Nat) (w : World) (h : Cel w A (bv l)) (hl : l.length ≤ 9223372036854775807) (h8 : ∀ p ∈ l, p < 256) :
    Calls Try.prog 29 #[.slice A l.length c] w fun e w' => e = .returned (.int .u8 (orL l : Nat)) ∧ w' = w := by
  obtain ⟨n, hn⟩ : ∃ n, l.length = n := ⟨_, rfl⟩
  rw [hn] at hl ⊢
  have HN := Lib.hid hn
  have HC := Lib.hid h
  have H8 := Lib.hid h8
  clear hn h h8
  go_enter Try.func29, Try.ntmps29
  go_wp2_with (fail)
  go_loopw [3, 8] (fun s i wr => ∃ k : Nat, i = .int .i64 k ∧ k ≤ n ∧ (∃ t : Nat, s = .int .u8 t ∧ t < 256 ∧ Hid (orL (l.take k) = t)) ∧ wr = w) (fun _ i _ => n - (intOf i).toNat)
  case atStart => exact ⟨0, rfl, by omega, ⟨0, rfl, by omega, Lib.hid rfl⟩, rfl⟩
  case round =>
    obtain ⟨k, rfl, hk, ⟨t, rfl, ht, hT⟩, rfl⟩ := hrel
    by_cases hkn : k < n
    · obtain ⟨b, o, rfl, hlt, hcell⟩ := HC.out.at0 (by rw [bv_length, HN.out]; omega)
      obtain ⟨r, hp⟩ : ∃ r, l[k]? = some r := ⟨_, List.getElem?_eq_getElem (by rw [HN.out]; exact hkn)⟩
      have e1 := hcell k _ (bv_get hp)
      have hr := H8.out r (List.mem_of_getElem? hp)
      have e2 := or8 t r ht hr
      have HT2 : Hid (orL (l.take (k + 1)) = t ||| r) := Lib.hid (by
        rw [List.take_add_one, hp, ← hT.out]
        exact orL_more _ _)
      have hlt8 : t ||| r < 256 := Nat.or_lt_two_pow (n := 8) ht hr
      obtain ⟨u, hu⟩ : ∃ u, t ||| r = u := ⟨_, rfl⟩
      rw [hu] at e2 HT2 hlt8
      clear hp hcell hu
      go_wp2_with (fail)
      go_roundw
      case rel => exact ⟨k + 1, by go_num, by omega, ⟨u, rfl, hlt8, HT2⟩, trivial⟩
      case measure => simp [intOf]; omega
    · obtain rfl : k = n := by omega
      have HF : Hid (orL l = t) := Lib.hid (by have := hT.out; rwa [List.take_of_length_le (by rw [HN.out]; exact Nat.le_refl _)] at this)
      go_wp2_with (fail)
      go_ret
      exact ⟨by rw [HF.out]; rfl, rfl⟩
end Go.Proofs.Ytejhodjbgablaaa
