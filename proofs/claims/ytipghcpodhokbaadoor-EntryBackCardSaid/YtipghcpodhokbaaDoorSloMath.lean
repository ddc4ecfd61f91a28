/- Slots of directories as numbers and texts: which may be, which words they are, and back; bits turned in them. No program's text stands here. -/
import Derived.Test.YtipghcpodhokbaaDoorWordT
import Derived.Test.YtipghcpodhokbaaDoorSumMath
set_option linter.unusedSimpArgs false
set_option linter.unusedVariables false
namespace Go.Proofs.YtipghcpodhokbaaDoor
open WordMath SumMath
/-- A slot. -/
structure Slt where
  I : Int
  K : Int
  S : ByteArray
/-- As cells, as a value. -/
abbrev Slt.c (x : Slt) : Array Value := #[.int .i64 x.I, .int .u8 x.K, .string x.S]
abbrev Slt.v (x : Slt) : Value := .agg x.c
/-- The empty one. -/
def zS : Slt := ⟨0, 0, ⟨#[]⟩⟩
/-- Is it the empty one? -/
def isZ (x : Slt) : Bool := decide (x.I = 0) && (decide (x.K = 0) && decide (x.S.size = 0))
theorem bytes_empty {s : ByteArray} (h : s.size = 0) : s = ⟨#[]⟩ := by
  cases s with
  | mk d =>
    have : d = #[] := Array.eq_empty_of_size_eq_zero (by simpa [ByteArray.size] using h)
    rw [this]
theorem isZ_eq {x : Slt} : isZ x = true ↔ x = zS := by
  unfold isZ
  simp only [Bool.and_eq_true, decide_eq_true_eq]
  constructor
  · rintro ⟨h1, h2, h3⟩
    cases x
    simp only at h1 h2 h3
    rw [h1, h2, bytes_empty h3]
    rfl
  · rintro rfl
    exact ⟨rfl, rfl, rfl⟩
/-- Has it neither a 0 nor a slash? -/
def plainB (s : ByteArray) : Bool := s.data.toList.all fun b => b != 0 && b != 47
/-- May it be, as one that has a name? -/
def fullB (x : Slt) (I : Int) : Bool := decide (1 ≤ x.I ∧ x.I ≤ I) && (decide (1 ≤ x.K ∧ x.K ≤ 3) && (decide (1 ≤ x.S.size ∧ x.S.size ≤ 16) && plainB x.S))
def okS (x : Slt) (I : Int) : Bool := isZ x || fullB x I
/-- Its numbers have room in their fields. -/
structure Fit (x : Slt) : Prop where
  I : 0 ≤ x.I ∧ x.I < 256
  K : 0 ≤ x.K ∧ x.K < 256
  S : x.S.size ≤ 16
theorem okS_fit {x : Slt} {I : Int} (h : okS x I = true) (hI : I ≤ 64) : Fit x := by
  unfold okS at h
  rw [Bool.or_eq_true] at h
  rcases h with h | h
  · rw [isZ_eq] at h
    subst h
    exact ⟨by decide, by decide, by decide⟩
  · unfold fullB at h
    simp only [Bool.and_eq_true, decide_eq_true_eq] at h
    obtain ⟨h1, h2, h3, _⟩ := h
    exact ⟨by omega, by omega, by omega⟩
theorem okS_zero {x : Slt} {I : Int} (h : okS x I = true) : (x.I = 0) = (isZ x = true) := by
  unfold okS at h
  apply propext
  constructor
  · intro h0
    rw [Bool.or_eq_true] at h
    rcases h with h | h
    · exact h
    · unfold fullB at h
      simp only [Bool.and_eq_true, decide_eq_true_eq] at h
      omega
  · intro h
    rw [isZ_eq] at h
    subst h; rfl
/-- Word k of a name. -/
def pw (s : ByteArray) (k : Nat) : Nat := (packL s.data.toList).getD k 0
theorem pw_lt (s : ByteArray) (k : Nat) : pw s k < 18446744073709551616 := pack_wd s.data.toList _ (Nat.le_refl _) k
/-- The lower half of the last word. -/
def tailN (x : Slt) : Nat := x.I.toNat + 256 * x.K.toNat + 65536 * x.S.size
/-- The sum of the words ahead of it. -/
def crcN (a b t : Nat) : Nat := moreV 0 (bytesN (textL [a, b, t] 20))
theorem crcN_lt (a b t : Nat) : crcN a b t < 4294967296 := moreV_lt (by decide) (bytesN_lt _)
/-- The words of a slot. -/
def slW (x : Slt) : List Nat := if isZ x = true then [0, 0, 0] else [pw x.S 0, pw x.S 1, tailN x + 4294967296 * crcN (pw x.S 0) (pw x.S 1) (tailN x)]
theorem slW_length (x : Slt) : (slW x).length = 3 := by unfold slW; split <;> rfl
theorem tailN_lt {x : Slt} (h : Fit x) : tailN x < 4294967296 := by
  obtain ⟨h1, h2, h3⟩ := h
  unfold tailN; omega
theorem slW_wd {x : Slt} (h : Fit x) : Wd (slW x) := by
  have h1 := tailN_lt h
  have h2 := pw_lt x.S 0
  have h3 := pw_lt x.S 1
  have h4 := crcN_lt (pw x.S 0) (pw x.S 1) (tailN x)
  unfold slW
  intro k
  split
  · match k with
    | 0 => decide
    | 1 => decide
    | 2 => decide
    | k + 3 => simp
  · match k with
    | 0 => exact h2
    | 1 => exact h3
    | 2 => show tailN x + 4294967296 * crcN (pw x.S 0) (pw x.S 1) (tailN x) < 18446744073709551616; omega
    | k + 3 => simp
/-- The slot that the fields of words have. -/
def rdS (l : List Nat) : Slt := ⟨(fld (l.getD 2 0) 0 8 : Nat), (fld (l.getD 2 0) 8 8 : Nat), txtV [l.getD 0 0, l.getD 1 0] (fld (l.getD 2 0) 16 8 : Nat)⟩
theorem text_name (s : ByteArray) (h : s.size ≤ 16) : txtV [pw s 0, pw s 1] (s.size : Nat) = s := by
  have ht : isTxt [pw s 0, pw s 1] (s.size : Nat) := ⟨by omega, by simp; omega⟩
  rw [txtV_yes ht, Int.toNat_natCast]
  have e : textL [pw s 0, pw s 1] s.size = textL (packL s.data.toList) s.data.toList.length := by
    have hl : s.data.toList.length = s.size := by simp
    rw [hl]
    unfold textL
    apply List.map_congr_left
    intro k hk
    have hk2 : k < s.size := by simpa using hk
    have : [pw s 0, pw s 1].getD (k / 8) 0 = (packL s.data.toList).getD (k / 8) 0 := by
      have : k / 8 = 0 ∨ k / 8 = 1 := by omega
      rcases this with h | h <;> rw [h] <;> rfl
    rw [this]
  rw [e, text_pack]
theorem fld_tail {a b n c : Nat} (ha : a < 256) (hb : b < 256) (hn : n < 256) : fld (a + 256 * b + 65536 * n + 4294967296 * c) 0 8 = a ∧ fld (a + 256 * b + 65536 * n + 4294967296 * c) 8 8 = b ∧ fld (a + 256 * b + 65536 * n + 4294967296 * c) 16 8 = n := by
  unfold fld
  simp only [Nat.pow_zero, Nat.div_one, show (2 : Nat) ^ 8 = 256 by decide, show (2 : Nat) ^ 16 = 65536 by decide]
  omega
theorem rd_slW {x : Slt} (h : Fit x) : rdS (slW x) = x := by
  by_cases hz : isZ x = true
  · have := isZ_eq.1 hz
    subst this
    rfl
  · have e : slW x = [pw x.S 0, pw x.S 1, tailN x + 4294967296 * crcN (pw x.S 0) (pw x.S 1) (tailN x)] := by unfold slW; rw [if_neg hz]
    rw [e]
    have ht := text_name x.S h.S
    obtain ⟨⟨i0, i1⟩, ⟨k0, k1⟩, hs⟩ := h
    obtain ⟨f1, f2, f3⟩ := fld_tail (a := x.I.toNat) (b := x.K.toNat) (n := x.S.size) (c := crcN (pw x.S 0) (pw x.S 1) (tailN x)) (by omega) (by omega) (by omega)
    unfold rdS
    simp only [List.getD_cons_zero, List.getD_cons_succ]
    unfold tailN at f1 f2 f3 ⊢
    rw [f1, f2, f3, ht]
    cases x
    simp only at i0 k0 ⊢
    congr 1 <;> omega
/-- Are they the words of a slot that may be? -/
def decOk (l : List Nat) (I : Int) : Bool := decide (l.length = 3) && (okS (rdS l) I && decide (slW (rdS l) = l))
theorem decOk_slW {x : Slt} {I : Int} (h : okS x I = true) (hI : I ≤ 64) : decOk (slW x) I = true ∧ rdS (slW x) = x := by
  have e := rd_slW (okS_fit h hI)
  refine ⟨?_, e⟩
  unfold decOk
  rw [e, h, slW_length]
  simp
theorem decOk_of {l : List Nat} {I : Int} (h : decOk l I = true) : l.length = 3 ∧ okS (rdS l) I = true ∧ slW (rdS l) = l := by
  unfold decOk at h
  simp only [Bool.and_eq_true, decide_eq_true_eq] at h
  exact h
/-! ### bits turned -/
theorem bytes_row (a b t : Nat) : bytesN (textL [a, b, t] 20) = octs a 8 ++ (octs b 8 ++ octs t 4) := by
  unfold bytesN textL octs oct fld
  simp [List.range_succ]
theorem crcN_num {a b t : Nat} (ha : a < 18446744073709551616) (hb : b < 18446744073709551616) (ht : t < 4294967296) :
    crcN a b t = halves 160 (M ^^^ (a ^^^ 2 ^ 64 * b ^^^ 2 ^ 128 * t)) ^^^ M := by
  have e1 : halves 64 (M ^^^ a) ^^^ b = halves 64 (M ^^^ a ^^^ 2 ^ 64 * b) := by rw [halves_xor 64 (M ^^^ a), halves_mul]
  have e2 : halves 64 (halves 64 (M ^^^ a ^^^ 2 ^ 64 * b)) ^^^ t = halves 128 (M ^^^ a ^^^ 2 ^ 64 * b ^^^ 2 ^ 128 * t) := by
    rw [halves_xor 128 (M ^^^ a ^^^ 2 ^ 64 * b), halves_mul, ← halves_add]
  have e3 : halves 32 (halves 128 (M ^^^ a ^^^ 2 ^ 64 * b ^^^ 2 ^ 128 * t)) = halves 160 (M ^^^ (a ^^^ 2 ^ 64 * b ^^^ 2 ^ 128 * t)) := by
    rw [← halves_add]
    simp only [Nat.xor_assoc]
  unfold crcN moreV
  rw [bytes_row, crc_append, crc_append, Nat.zero_xor, crc_octs, crc_octs, crc_octs, Nat.mod_eq_of_lt (by simpa using ha), Nat.mod_eq_of_lt (by simpa using hb), Nat.mod_eq_of_lt (by simpa using ht)]
  show halves 32 (halves 64 (halves 64 (M ^^^ a) ^^^ b) ^^^ t) ^^^ M = _
  rw [e1, e2, e3]
theorem num3 {a b t c : Nat} (ha : a < 18446744073709551616) (hb : b < 18446744073709551616) (ht : t < 4294967296) :
    num [a, b, t + 4294967296 * c] = (a ^^^ 2 ^ 64 * b ^^^ 2 ^ 128 * t) ^^^ 2 ^ 160 * c := by
  have h1 : t + 4294967296 * c = t ^^^ 2 ^ 32 * c := by
    rw [← add_xor 32 c t (by simpa using ht)]; omega
  have h2 := add_xor 64 (num [b, t + 4294967296 * c]) a (by simpa using ha)
  have h3 := add_xor 64 (num [t + 4294967296 * c]) b (by simpa using hb)
  have h4 : num [t + 4294967296 * c] = t ^^^ 2 ^ 32 * c := by rw [← h1]; simp [num]
  rw [num_cons, h2, num_cons b, h3, h4, xor_mul_pow 64 b, xor_mul_pow 64 t, xor_mul_pow 64 (2 ^ 64 * t)]
  have p1 : 2 ^ 64 * (2 ^ 64 * t) = 2 ^ 128 * t := by rw [← Nat.mul_assoc]
  have p2 : 2 ^ 64 * (2 ^ 64 * (2 ^ 32 * c)) = 2 ^ 160 * c := by rw [← Nat.mul_assoc, ← Nat.mul_assoc]
  rw [p1, p2]
  simp only [Nat.xor_assoc]
theorem slW_num {x : Slt} (h : Fit x) (hz : ¬ isZ x = true) : ∃ n, num (slW x) = n ^^^ 2 ^ 160 * (halves 160 (M ^^^ n) ^^^ M) := by
  refine ⟨pw x.S 0 ^^^ 2 ^ 64 * pw x.S 1 ^^^ 2 ^ 128 * tailN x, ?_⟩
  unfold slW
  rw [if_neg hz, num3 (pw_lt _ _) (pw_lt _ _) (tailN_lt h), crcN_num (pw_lt _ _) (pw_lt _ _) (tailN_lt h)]
/-- A slot in whose words some of 32 bits in a row are turned is none, unless it is empty. -/
theorem slot_told {x x' : Slt} (h : Fit x) (hz : ¬ isZ x = true) (h' : Fit x') (hz' : ¬ isZ x' = true) {k t : Nat} (hk : k ≤ 160) (ht : t < 4294967296) (hn : num (slW x') = num (slW x) ^^^ 2 ^ k * t) : t = 0 := by
  obtain ⟨n, e⟩ := slW_num h hz
  obtain ⟨n', e'⟩ := slW_num h' hz'
  refine Classical.byContradiction fun h0 => burst_ne h0 ht hk ?_
  have e2 : 2 ^ k * t = num (slW x') ^^^ num (slW x) := by
    rw [hn, Nat.xor_comm (num (slW x)), Nat.xor_assoc, Nat.xor_self, Nat.xor_zero]
  rw [e2, e, e']
  simp only [halves_xor, halves_mul]
  generalize halves 160 n = p
  generalize halves 160 n' = q
  generalize halves 160 M = r
  have : q ^^^ (r ^^^ q ^^^ M) ^^^ (p ^^^ (r ^^^ p ^^^ M)) = (q ^^^ q) ^^^ (p ^^^ p) ^^^ (r ^^^ r) ^^^ (M ^^^ M) := by ac_rfl
  rw [this]
  simp only [Nat.xor_self]
end Go.Proofs.YtipghcpodhokbaaDoor
