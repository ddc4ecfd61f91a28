/- What With hands back, the program's and the document's own: a new row. -/
import Derived.Test.YtaafchcpnceddaaDoorRefBits
import Derived.Laws.CopyOwn
set_option linter.unusedSimpArgs false
set_option linter.unusedVariables false
namespace Go.Proofs.YtaafchcpnceddaaDoor
open Go.RowKit WordMath

theorem u64_info : (Tryd.prog.info? 38).map (fun i => (i.zero, i.size, i.bytes)) = some (some (.int .u64 0), 1, 8) := by kernel_rfl
theorem u64_size : (Tryd.prog.info? 38).map (·.size) = some 1 := by kernel_rfl

/-- It hands back a new row and an error. -/
def Gives (l : List Nat) (err : Int) (w : World) (e : Ending) (w' : World) : Prop :=
  ∃ A c, e = .returned (.tuple #[.slice A l.length c, .int .i64 err]) ∧ Row w' A l ∧ Fresh w.heap.size A ∧ Below w.heap.size w w'
/-- It hands back a new row. -/
def GivesRow (l : List Nat) (w : World) (e : Ending) (w' : World) : Prop :=
  ∃ A c, e = .returned (.slice A l.length c) ∧ Row w' A l ∧ Fresh w.heap.size A ∧ Below w.heap.size w w'

def one (on : Bool) : Nat := if on then 1 else 0
/-- The row that With hands back. -/
def withL (l : List Nat) (i : Int) (on : Bool) : List Nat :=
  if isBit l i then l.set (i / 64).toNat (put (l.getD (i / 64).toNat 0) (i % 64).toNat 1 (one on)) else []
theorem withL_yes {l : List Nat} {i : Int} {on : Bool} (h : isBit l i) : withL l i on = l.set (i / 64).toNat (put (l.getD (i / 64).toNat 0) (i % 64).toNat 1 (one on)) := if_pos h
theorem withL_no {l : List Nat} {i : Int} {on : Bool} (h : ¬ isBit l i) : withL l i on = [] := if_neg h
theorem one_lt (on : Bool) : one on < 2 ^ 1 := by cases on <;> decide

theorem or_put (x a : Nat) : x ||| 2 ^ a = put x a 1 1 := by
  apply Nat.eq_of_testBit_eq
  intro i
  rw [testBit_put _ _ _ _ _ (by decide), Nat.testBit_or, Nat.testBit_two_pow]
  by_cases h : i < a
  · have : a ≠ i := by omega
    simp [h, this]
  · by_cases h2 : i = a
    · subst h2; simp
    · have : ¬ i < a + 1 := by omega
      have h3 : a ≠ i := by omega
      simp [h, this, h3]
theorem andNot_put (x a : Nat) (hx : x < 2 ^ 64) (ha : a + 1 ≤ 64) : x &&& (18446744073709551615 - 2 ^ a) = put x a 1 0 := by
  have := put_or x a 1 0 (by decide) hx ha
  simpa using this
theorem or_key (x i : Int) (x0 : 0 ≤ x) (x1 : x < 18446744073709551616) (i0 : 0 ≤ i) (i1 : i < 64) :
    bits BinOp.or IntKind.u64 x (IntKind.u64.wrap (2 ^ i.toNat)) = (put x.toNat i.toNat 1 1 : Nat) := by
  obtain ⟨x, rfl⟩ := Int.eq_ofNat_of_zero_le x0
  obtain ⟨i, rfl⟩ := Int.eq_ofNat_of_zero_le i0
  simp only [Int.toNat_natCast]
  have hp : 2 ^ i < 18446744073709551616 := by
    have := Nat.pow_lt_pow_right (a := 2) (by decide) (show i < 64 by omega)
    simpa using this
  have e : IntKind.u64.wrap ((2 : Int) ^ i) = ((2 ^ i : Nat) : Int) := by
    have : ((2 : Int) ^ i) = ((2 ^ i : Nat) : Int) := by simp
    rw [this, IntKind.wrap_u64]; exact Int.emod_eq_of_lt (Int.natCast_nonneg _) (Int.ofNat_lt.2 hp)
  rw [e, bits_or_u64_nat _ _ (by omega) hp, or_put]
theorem andNot_key (x i : Int) (x0 : 0 ≤ x) (x1 : x < 18446744073709551616) (i0 : 0 ≤ i) (i1 : i < 64) :
    bits BinOp.andNot IntKind.u64 x (IntKind.u64.wrap (2 ^ i.toNat)) = (put x.toNat i.toNat 1 0 : Nat) := by
  obtain ⟨x, rfl⟩ := Int.eq_ofNat_of_zero_le x0
  obtain ⟨i, rfl⟩ := Int.eq_ofNat_of_zero_le i0
  simp only [Int.toNat_natCast]
  have hp : 2 ^ i < 18446744073709551616 := by
    have := Nat.pow_lt_pow_right (a := 2) (by decide) (show i < 64 by omega)
    simpa using this
  have e : IntKind.u64.wrap ((2 : Int) ^ i) = ((2 ^ i : Nat) : Int) := by
    have : ((2 : Int) ^ i) = ((2 ^ i : Nat) : Int) := by simp
    rw [this, IntKind.wrap_u64]; exact Int.emod_eq_of_lt (Int.natCast_nonneg _) (Int.ofNat_lt.2 hp)
  rw [e, u64_andNot_nat _ _ (by omega) hp, andNot_put _ _ (by simp; omega) (by omega)]

def CopyFrom (w1 : World) (A : Option Addr) (l : List Nat) (d : Option Addr) : Prop :=
    0 < (wv l).length → d = d ∧ ∃ ad, A = some ad ∧ ∀ j v, (wv l)[j]? = some v → w1.cell? (ad.add j) = some v
theorem copy_from {w w1 : World} {A : Option Addr} {l : List Nat} (d : Option Addr) (hr : Row w A l) (hb : Below w.heap.size w w1) : CopyFrom w1 A l d := by
  intro hp
  rw [wv_length] at hp
  obtain ⟨ad, e, _, hc⟩ := hr.below hb hp
  refine ⟨rfl, ad, e, fun j v hv => ?_⟩
  have hj : j < l.length := by
    rcases Nat.lt_or_ge j l.length with h | h
    · exact h
    · rw [List.getElem?_eq_none (by rw [wv_length]; exact h)] at hv; cases hv
  rw [wv_get l j hj] at hv
  rw [hc j hj]; exact hv
theorem splice_all (l : List Nat) (n : Nat) (h : l.length = n) : splice (wv (List.replicate n 0)) 0 (wv l) = wv l := by
  simp [splice, wv, ← h]
theorem blk_spliced {w1 : World} {g : Nat} {e : TypeId} {l : List Nat} (h : Hid (w1.heap[g]? = some (.cells (splice (wv (List.replicate l.length 0)) 0 (wv l)).toArray e (0, 0)))) : Blk e w1 g l := by
  have := h.out
  rw [splice_all l _ rfl] at this
  exact this
end Go.Proofs.YtaafchcpnceddaaDoor
