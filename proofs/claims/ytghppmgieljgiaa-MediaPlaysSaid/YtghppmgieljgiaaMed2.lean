/- The two closures that tell which stores stay. -/
import Derived.Test.YtghppmgieljgiaaMed1
namespace Go.Proofs.Ytghppmgieljgiaa
open Go.RowKit
/-- A waiting store as a value. -/
def pval (p : Pn) : Value := .agg #[.int .i64 (p.pos : Nat), .int .u64 (p.word : Nat), .bool p.fl]
/-- Bools as values. -/
def bv (l : List Bool) : List Value := l.map Value.bool
theorem bv_length (l : List Bool) : (bv l).length = l.length := by simp [bv]
theorem bv_get (l : List Bool) (k : Nat) (h : k < l.length) : (bv l)[k]? = some (.bool (l.getD k false)) := by
  simp [bv, List.getElem?_map, List.getD_eq_getElem?_getD, List.getElem?_eq_getElem h]
theorem bv_one (l : List Bool) : ∀ u ∈ bv l, u.oneCell' = true := by
  intro u hu
  simp only [bv, List.mem_map] at hu
  obtain ⟨x, _, rfl⟩ := hu
  rfl
theorem fence1_calls (k : Int) (p : Pn) (w : World) : Calls Try.prog 35 #[.int .i64 k, pval p] w fun e w' => e = .returned (.bool p.fl) ∧ Below w.heap.size w w' := by
  unfold pval
  go_enter Try.func35, Try.ntmps35
  go_wp2
  go_ret
  exact ⟨rfl, (Below.refl _ _).alloc (Nat.le_refl _) _⟩
theorem crash1_calls (k : Nat) (p : Pn) (keep : List Bool) (kb : Nat) (A : Option Addr) (c : Nat) (w : World) (hk : w.cell? ⟨kb, 0, none⟩ = some (.slice A keep.length c)) (hr : Cel w A (bv keep)) (hlt : kb < w.heap.size)
    (hm : keep.length ≤ 9223372036854775807) :
    Calls Try.prog 36 #[.int .i64 (k : Nat), pval p, .pointer (some ⟨kb, 0, none⟩)] w fun e w' => e = .returned (.bool (keep.getD k false)) ∧ Below w.heap.size w w' := by
  unfold pval
  by_cases h : k < keep.length
  · obtain ⟨ad, rfl, hl, hc⟩ := hr (by rw [bv_length]; omega)
    have hck := hc k _ (bv_get keep k h)
    rw [← add_block ad k] at hl
    clear hc hr
    generalize keep.getD k false = b at *
    go_enter Try.func36, Try.ntmps36
    go_wp2
    go_ret
    exact ⟨rfl, (Below.refl _ _).alloc (Nat.le_refl _) _⟩
  · have hd : keep.getD k false = false := by rw [List.getD_eq_getElem?_getD, List.getElem?_eq_none (by omega)]; rfl
    rw [hd]
    clear hd
    go_enter Try.func36, Try.ntmps36
    go_wp2
    go_ret
    exact ⟨rfl, (Below.refl _ _).alloc (Nat.le_refl _) _⟩
end Go.Proofs.Ytghppmgieljgiaa
