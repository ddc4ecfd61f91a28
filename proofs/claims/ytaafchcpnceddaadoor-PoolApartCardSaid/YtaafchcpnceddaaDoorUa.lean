/- Numbers that are free: rows of ints as values; valid, Free, the program's and the document's own; two rows of ints compared. -/
import Derived.Test.YtaafchcpnceddaaDoorRefWith
import Derived.Test.YtaafchcpnceddaaDoorUn
import Derived.Test.YtaafchcpnceddaaDoorCel
set_option linter.unusedSimpArgs false
set_option linter.unusedVariables false
namespace Go.Proofs.YtaafchcpnceddaaDoor
open Go.RowKit WordMath
/-- Ints as values. -/
def iv (l : List Int) : List Value := l.map fun x => Value.int .i64 x
theorem iv_length (l : List Int) : (iv l).length = l.length := by simp [iv]
theorem iv_get (l : List Int) (k : Nat) (h : k < l.length) : (iv l)[k]? = some (.int .i64 (l.getD k 0)) := by
  simp [iv, List.getElem?_map, List.getD_eq_getElem?_getD, List.getElem?_eq_getElem h]
theorem iv_set (l : List Int) (k : Nat) (v : Int) : iv (l.set k v) = (iv l).set k (.int .i64 v) := by simp [iv, List.map_set]
theorem iv_append (l m : List Int) : iv (l ++ m) = iv l ++ iv m := by simp [iv]
theorem iv_one (l : List Int) : ∀ u ∈ iv l, u.oneCell' = true := by
  intro u hu
  simp only [iv, List.mem_map] at hu
  obtain ⟨x, _, rfl⟩ := hu
  rfl
theorem Cel.int {w : World} {A : Option Addr} {l : List Int} (h : Cel w A (iv l)) {k : Nat} (hk : k < l.length) :
    ∃ ad, A = some ad ∧ w.cell? (ad.add k) = some (.int .i64 (l.getD k 0)) := by
  obtain ⟨ad, e, _, hc⟩ := h (by rw [iv_length]; omega)
  exact ⟨ad, e, hc _ _ (iv_get l k hk)⟩
theorem i64_info : (Tryd.prog.info? 3).map (fun i => (i.zero, i.size, i.bytes)) = some (some (.int .i64 0), 1, 8) := by kernel_rfl
/-- The document's numbers: i stands at bit i - 1. -/
def up (is : List Nat) : List Int := is.map fun (i : Nat) => (i : Int) + 1
def dn (is : List Int) : List Nat := is.map fun i => (i - 1).toNat
theorem up_length (is : List Nat) : (up is).length = is.length := by simp [up]
theorem dn_length (is : List Int) : (dn is).length = is.length := by simp [dn]
theorem dn_up (is : List Nat) : dn (up is) = is := by
  unfold dn up
  rw [List.map_map]
  conv => rhs; rw [← List.map_id is]
  refine List.map_congr_left fun i _ => ?_
  simp
/-- There may be so many numbers. -/
def validB (l : List Nat) (n : Int) : Bool := decide (0 ≤ n ∧ n ≤ 64 * (l.length : Int))
theorem valid_calls (A : Option Addr) (l : List Nat) (c : Nat) (n : Int) (w : World) (hn : n ≤ 9223372036854775807) (hlen : l.length ≤ 1048576) :
    Calls Tryd.prog 25 #[.slice A l.length c, .int .i64 n] w fun e w' => e = .returned (.bool (validB l n)) ∧ w = w' := by
  by_cases h0 : 0 ≤ n
  · have kv : Hid (validB l n = decide (n ≤ 64 * (l.length : Int))) := by
      show validB l n = _
      unfold validB
      simp [h0]
    go_enter Tryd.func25, Tryd.ntmps25
    go_wp2
    go_ret
    rw [kv.out]
    exact ⟨rfl, rfl⟩
  · have kv : Hid (validB l n = false) := by
      show validB l n = _
      unfold validB
      simp [h0]
    go_enter Tryd.func25, Tryd.ntmps25
    go_wp2
    go_ret
    rw [kv.out]
    exact ⟨rfl, rfl⟩
theorem may_calls (A : Option Addr) (l : List Nat) (c : Nat) (n : Int) (w : World) (hn : n ≤ 9223372036854775807) (hlen : l.length ≤ 1048576) :
    Calls Tryd.prog 27 #[.slice A l.length c, .int .i64 n] w fun e w' => e = .returned (.bool (validB l n)) ∧ w = w' := by
  by_cases h0 : 0 ≤ n
  · by_cases h1 : n = 0
    · have kv : Hid (validB l n = true) := by
        show validB l n = _
        unfold validB
        rw [decide_eq_true_eq]; omega
      subst h1
      go_enter Tryd.func27, Tryd.ntmps27
      go_wp2
      go_ret
      rw [kv.out]
      exact ⟨rfl, rfl⟩
    · have kv : Hid (validB l n = decide ((n - 1) / 64 < (l.length : Int))) := by
        show validB l n = _
        unfold validB
        rw [decide_eq_decide]; omega
      have h2 : (n == 0) = false := by simpa using h1
      have h3 : 0 ≤ n - 1 := by omega
      clear h1
      go_enter Tryd.func27, Tryd.ntmps27
      go_wp2
      go_ret
      rw [kv.out]
      exact ⟨rfl, rfl⟩
  · have kv : Hid (validB l n = false) := by
      show validB l n = _
      unfold validB
      simp [h0]
    go_enter Tryd.func27, Tryd.ntmps27
    go_wp2
    go_ret
    rw [kv.out]
    exact ⟨rfl, rfl⟩
/-- How many are free. -/
def frN (l : List Nat) (n : Int) : Nat := (freesL l n.toNat).length
def freeV (l : List Nat) (n : Int) : Int := if validB l n then (frN l n : Nat) else 0
def freeE (l : List Nat) (n : Int) : Int := if validB l n then 0 else 2
theorem validB_iff {l : List Nat} {n : Int} : validB l n = true ↔ 0 ≤ n ∧ n ≤ 64 * (l.length : Int) := by
  unfold validB; exact decide_eq_true_iff
theorem freeV_yes {l : List Nat} {n : Int} (h : validB l n = true) : freeV l n = (frN l n : Nat) := if_pos h
theorem freeE_yes {l : List Nat} {n : Int} (h : validB l n = true) : freeE l n = 0 := if_pos h
theorem freeV_no {l : List Nat} {n : Int} (h : validB l n = false) : freeV l n = 0 := if_neg (by rw [h]; decide)
theorem freeE_no {l : List Nat} {n : Int} (h : validB l n = false) : freeE l n = 2 := if_neg (by rw [h]; decide)
theorem frN_cnt {l : List Nat} {n : Int} (h : validB l n = true) : n - cntV l n = (frN l n : Nat) := by
  obtain ⟨h0, h1⟩ := validB_iff.1 h
  have := frees_len l n.toNat
  unfold cntV frN
  rw [show lim l n = n.toNat by unfold lim; omega]
  omega
theorem frN_le (l : List Nat) (n : Int) : frN l n ≤ n.toNat := by
  have := frees_len l n.toNat
  unfold frN; omega
theorem free_calls (A : Option Addr) (l : List Nat) (c : Nat) (n : Int) (w : World) (hn : -9223372036854775808 ≤ n) (hn2 : n ≤ 9223372036854775807) (hr : Row w A l) (hl : Wd l) (hlen : l.length ≤ 1048576) :
    Calls Tryd.prog 12 #[.slice A l.length c, .int .i64 n] w fun e w' => e = .returned (.tuple #[.int .i64 (freeV l n), .int .i64 (freeE l n)]) ∧ w = w' := by
  have cv := valid_calls A l c n w hn2 hlen
  cases hv : validB l n
  · rw [hv] at cv
    have kv := Lib.hid (freeV_no hv)
    have ke := Lib.hid (freeE_no hv)
    have CV := Lib.hid cv
    clear cv hv
    go_enter Tryd.func12, Tryd.ntmps12
    go_wp2_with (go_at_call 25; refine (show Calls Tryd.prog 25 _ _ _ from CV.out).mono ?_; rintro e w' ⟨rfl, rfl⟩)
    go_ret2
    rw [kv.out, ke.out]
    exact ⟨rfl, rfl⟩
  · rw [hv] at cv
    have kv := Lib.hid (freeV_yes hv)
    have ke := Lib.hid (freeE_yes hv)
    have hc := frN_cnt hv
    have hle := frN_le l n
    obtain ⟨h0, h1⟩ := validB_iff.1 hv
    have CV := Lib.hid cv
    clear cv hv
    obtain ⟨x, hx⟩ : ∃ x, cntV l n = x := ⟨_, rfl⟩
    rw [hx] at hc
    have HX := Lib.hid hx
    have HC : Hid (n - x = (frN l n : Nat)) := hc
    have hx0 : 0 ≤ n - x := by omega
    have hx1 : n - x ≤ 67108864 := by omega
    clear hx hc hle
    go_enter Tryd.func12, Tryd.ntmps12
    go_wp2_with (first
      | (go_at_call 25; refine (show Calls Tryd.prog 25 _ _ _ from CV.out).mono ?_; rintro e w' ⟨rfl, rfl⟩)
      | (go_at_call 26; refine (count_calls A l c n w hn hn2 hr hl (by omega)).mono ?_; rintro e w' ⟨rfl, rfl⟩; rw [HX.out]))
    go_ret2
    rw [kv.out, ke.out, HC.out]
    exact ⟨rfl, rfl⟩
end Go.Proofs.YtaafchcpnceddaaDoor
