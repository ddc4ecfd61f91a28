/- Counting bits in words: the arithmetic of math/bits.OnesCount64 and TrailingZeros64, and of rows of bits. No program stands here. -/
import Derived.Test.YtaafchcpnceddaaDoorWordMath
import Derived.Lib.TrailingZeros
set_option linter.unusedSimpArgs false
set_option linter.unusedVariables false
namespace Go.Proofs.YtaafchcpnceddaaDoor.WordMath

/-- How many of the lowest m bits of w are 1. -/
def popc (w : Nat) : Nat → Nat
  | 0 => 0
  | m + 1 => popc w m + bitN w m

theorem popc_le (w m : Nat) : popc w m ≤ m := by
  induction m with
  | zero => simp [popc]
  | succ m ih => have := bitN_lt w m; simp only [popc]; omega
theorem popc_congr (v w m : Nat) (h : ∀ i, i < m → bitN v i = bitN w i) : popc v m = popc w m := by
  induction m with
  | zero => rfl
  | succ m ih => simp only [popc]; rw [ih fun i hi => h i (by omega), h m (by omega)]
theorem popc_split (w a m : Nat) : popc w (a + m) = popc w a + popc (w / 2 ^ a) m := by
  induction m with
  | zero => simp [popc]
  | succ m ih =>
    rw [← Nat.add_assoc]
    simp only [popc]
    rw [ih]
    have : bitN w (a + m) = bitN (w / 2 ^ a) m := by unfold bitN; rw [Nat.div_div_eq_div_mul, ← Nat.pow_add]
    omega
theorem bitN_mod (w n i : Nat) (h : i < n) : bitN (w % 2 ^ n) i = bitN w i := by
  rw [bitN_testBit, bitN_testBit, Nat.testBit_mod_two_pow]; simp [h]
theorem popc_byte (w m : Nat) : popc w (8 + m) = popc (w % 256) 8 + popc (w / 256) m := by
  rw [popc_split]
  congr 1
  exact (popc_congr _ _ _ fun i hi => bitN_mod w 8 i hi).symm
theorem popc_mod (w n m : Nat) (h : n ≤ m) : popc (w % 2 ^ n) m = popc w n := by
  obtain ⟨d, rfl⟩ : ∃ d, m = n + d := ⟨m - n, by omega⟩
  rw [popc_split, Nat.div_eq_of_lt (Nat.mod_lt _ (Nat.two_pow_pos _))]
  have : popc 0 d = 0 := by
    induction d with
    | zero => rfl
    | succ d ih => simp only [popc]; rw [ih (by omega)]; simp [bitN]
  rw [this, Nat.add_zero]
  exact popc_congr _ _ _ fun i hi => bitN_mod w n i hi

/-! Bytes of a word. -/
def val : List Nat → Nat
  | [] => 0
  | a :: r => a + 256 * val r
theorem and_cons (a y c d : Nat) (ha : a < 256) (hc : c < 256) : (a + 256 * y) &&& (c + 256 * d) = (a &&& c) + 256 * (y &&& d) := by
  have hac : a &&& c < 2 ^ 8 := Nat.and_lt_two_pow _ hc
  have e1 : a + 256 * y = 2 ^ 8 * y + a := by omega
  have e2 : c + 256 * d = 2 ^ 8 * d + c := by omega
  have e3 : (a &&& c) + 256 * (y &&& d) = 2 ^ 8 * (y &&& d) + (a &&& c) := by omega
  rw [e1, e2, e3]
  apply Nat.eq_of_testBit_eq
  intro i
  rw [Nat.testBit_and, Nat.testBit_two_pow_mul_add _ (by simpa using ha), Nat.testBit_two_pow_mul_add _ (by simpa using hc), Nat.testBit_two_pow_mul_add _ hac]
  split <;> rw [Nat.testBit_and]

def f1 (M x : Nat) : Nat := (x / 2 &&& M) + (x &&& M)
def f2 (M x : Nat) : Nat := (x / 4 &&& M) + (x &&& M)
def f3 (M x : Nat) : Nat := (x / 16 + x) &&& M
def rep (c : Nat) : Nat → Nat
  | 0 => 0
  | n + 1 => c + 256 * rep c n
theorem d1 : ∀ a : Fin 256, ∀ b : Fin 2, (a.val / 2 + 128 * b.val) &&& 85 = (a.val / 2 &&& 85) ∧ f1 85 a.val < 256 := by decide +kernel
theorem d2 : ∀ a : Fin 256, ∀ b : Fin 4, (a.val / 4 + 64 * b.val) &&& 51 = (a.val / 4 &&& 51) ∧ f2 51 a.val < 256 := by decide +kernel
theorem d3 : ∀ a : Fin 256, ∀ b : Fin 5, a.val / 16 ≤ 4 → a.val % 16 ≤ 4 → (a.val / 16 + a.val + 16 * b.val) &&& 15 = f3 15 a.val := by decide +kernel
theorem d4 : ∀ a : Fin 256, f2 51 (f1 85 a.val) / 16 ≤ 4 ∧ f2 51 (f1 85 a.val) % 16 ≤ 4 ∧ f3 15 (f2 51 (f1 85 a.val)) = popc a.val 8 := by decide +kernel

theorem f1_val (l : List Nat) (h : ∀ a ∈ l, a < 256) : f1 (rep 85 l.length) (val l) = val (l.map (f1 85)) ∧ ∀ a ∈ l.map (f1 85), a < 256 := by
  induction l with
  | nil => simp [f1, rep, val]
  | cons a l ih =>
    have ha := h a (by simp)
    obtain ⟨i1, i2⟩ := ih fun x hx => h x (by simp [hx])
    have q := d1 ⟨a, ha⟩ ⟨val l % 2, by omega⟩
    simp only at q
    constructor
    · simp only [List.length_cons, rep, val, List.map_cons]
      rw [← i1]
      unfold f1 at q ⊢
      have e : (a + 256 * val l) / 2 = (a / 2 + 128 * (val l % 2)) + 256 * (val l / 2) := by omega
      rw [e, and_cons _ _ _ _ (by omega) (by omega), and_cons _ _ _ _ ha (by omega), q.1]
      omega
    · intro x hx
      rw [List.map_cons, List.mem_cons] at hx
      rcases hx with rfl | hx
      · exact q.2
      · exact i2 x hx
theorem f2_val (l : List Nat) (h : ∀ a ∈ l, a < 256) : f2 (rep 51 l.length) (val l) = val (l.map (f2 51)) ∧ ∀ a ∈ l.map (f2 51), a < 256 := by
  induction l with
  | nil => simp [f2, rep, val]
  | cons a l ih =>
    have ha := h a (by simp)
    obtain ⟨i1, i2⟩ := ih fun x hx => h x (by simp [hx])
    have q := d2 ⟨a, ha⟩ ⟨val l % 4, by omega⟩
    simp only at q
    constructor
    · simp only [List.length_cons, rep, val, List.map_cons]
      rw [← i1]
      unfold f2 at q ⊢
      have e : (a + 256 * val l) / 4 = (a / 4 + 64 * (val l % 4)) + 256 * (val l / 4) := by omega
      rw [e, and_cons _ _ _ _ (by omega) (by omega), and_cons _ _ _ _ ha (by omega), q.1]
      omega
    · intro x hx
      rw [List.map_cons, List.mem_cons] at hx
      rcases hx with rfl | hx
      · exact q.2
      · exact i2 x hx
theorem f3_val (l : List Nat) (h : ∀ a ∈ l, a < 256 ∧ a / 16 ≤ 4 ∧ a % 16 ≤ 4) : f3 (rep 15 l.length) (val l) = val (l.map (f3 15)) := by
  induction l with
  | nil => simp [f3, rep, val]
  | cons a l ih =>
    obtain ⟨ha, ha1, ha2⟩ := h a (by simp)
    have i1 := ih fun x hx => h x (by simp [hx])
    have hy : val l % 16 ≤ 4 := by
      cases l with
      | nil => simp [val]
      | cons b r => have := (h b (by simp)).2.2; simp only [val]; omega
    have q := d3 ⟨a, ha⟩ ⟨val l % 16, by omega⟩ ha1 ha2
    simp only at q
    simp only [List.length_cons, rep, val, List.map_cons]
    rw [← i1, ← q]
    unfold f3
    have e : (a + 256 * val l) / 16 + (a + 256 * val l) = (a / 16 + a + 16 * (val l % 16)) + 256 * (val l / 16 + val l) := by omega
    rw [e, and_cons _ _ _ _ (by omega) (by omega)]

/-- The count in the program's way. -/
def swar (x : Nat) : Nat :=
  let a := f3 1085102592571150095 (f2 3689348814741910323 (f1 6148914691236517205 x))
  let b := a + a / 256
  let c := b + b / 65536
  (c + c / 4294967296) % 128
theorem bytes8 (x : Nat) (hx : x < 18446744073709551616) : ∃ a0 a1 a2 a3 a4 a5 a6 a7, (∀ a ∈ [a0, a1, a2, a3, a4, a5, a6, a7], a < 256) ∧ x = val [a0, a1, a2, a3, a4, a5, a6, a7] := by
  refine ⟨x % 256, x / 256 % 256, x / 65536 % 256, x / 16777216 % 256, x / 4294967296 % 256, x / 1099511627776 % 256, x / 281474976710656 % 256, x / 72057594037927936 % 256, ?_, ?_⟩
  · intro a ha; simp only [List.mem_cons, List.not_mem_nil, or_false] at ha; omega
  · simp only [val]; omega
theorem popc_val (a y m : Nat) (ha : a < 256) : popc (a + 256 * y) (8 + m) = popc a 8 + popc y m := by
  rw [popc_byte, show (a + 256 * y) % 256 = a by omega, show (a + 256 * y) / 256 = y by omega]
theorem divq (r m q : Nat) (h : r < m) : (r + m * q) / m = q := by
  rw [Nat.add_mul_div_left _ _ (by omega), Nat.div_eq_of_lt h, Nat.zero_add]
theorem lin1 (c0 c1 c2 c3 c4 c5 c6 c7 : Nat) : c0 + 256 * (c1 + 256 * (c2 + 256 * (c3 + 256 * (c4 + 256 * (c5 + 256 * (c6 + 256 * c7)))))) + (c1 + 256 * (c2 + 256 * (c3 + 256 * (c4 + 256 * (c5 + 256 * (c6 + 256 * c7)))))) =
    (c0 + c1 + 256 * (c1 + c2)) + 65536 * ((c2 + c3) + 256 * ((c3 + c4) + 256 * ((c4 + c5) + 256 * ((c5 + c6) + 256 * ((c6 + c7) + 256 * c7))))) := by omega
theorem lin2 (c0 c1 c2 c3 c4 c5 c6 c7 : Nat) : (c0 + c1 + 256 * (c1 + c2)) + 65536 * ((c2 + c3) + 256 * ((c3 + c4) + 256 * ((c4 + c5) + 256 * ((c5 + c6) + 256 * ((c6 + c7) + 256 * c7))))) + ((c2 + c3) + 256 * ((c3 + c4) + 256 * ((c4 + c5) + 256 * ((c5 + c6) + 256 * ((c6 + c7) + 256 * c7))))) =
    (c0 + c1 + c2 + c3 + 256 * (c1 + c2 + c3 + c4 + 256 * (c2 + c3 + c4 + c5 + 256 * (c3 + c4 + c5 + c6)))) + 4294967296 * (c4 + c5 + c6 + c7 + 256 * (c5 + c6 + c7 + 256 * (c6 + c7 + 256 * c7))) := by omega
theorem lin3 (c0 c1 c2 c3 c4 c5 c6 c7 : Nat) : (c0 + c1 + c2 + c3 + 256 * (c1 + c2 + c3 + c4 + 256 * (c2 + c3 + c4 + c5 + 256 * (c3 + c4 + c5 + c6)))) + 4294967296 * (c4 + c5 + c6 + c7 + 256 * (c5 + c6 + c7 + 256 * (c6 + c7 + 256 * c7))) + (c4 + c5 + c6 + c7 + 256 * (c5 + c6 + c7 + 256 * (c6 + c7 + 256 * c7))) =
    (c0 + c1 + c2 + c3 + c4 + c5 + c6 + c7) + 128 * (2 * ((c1 + c2 + c3 + c4 + 256 * (c2 + c3 + c4 + c5 + 256 * (c3 + c4 + c5 + c6)))) + 33554432 * (c4 + c5 + c6 + c7 + 256 * (c5 + c6 + c7 + 256 * (c6 + c7 + 256 * c7))) + 2 * (c5 + c6 + c7 + 256 * (c6 + c7 + 256 * c7))) := by omega
theorem fin8 (c0 c1 c2 c3 c4 c5 c6 c7 : Nat) (h0 : c0 ≤ 8) (h1 : c1 ≤ 8) (h2 : c2 ≤ 8) (h3 : c3 ≤ 8) (h4 : c4 ≤ 8) (h5 : c5 ≤ 8) (h6 : c6 ≤ 8) (h7 : c7 ≤ 8) (a : Nat)
    (ha : a = c0 + 256 * (c1 + 256 * (c2 + 256 * (c3 + 256 * (c4 + 256 * (c5 + 256 * (c6 + 256 * c7))))))) :
    (a + a / 256 + (a + a / 256) / 65536 + (a + a / 256 + (a + a / 256) / 65536) / 4294967296) % 128 = c0 + c1 + c2 + c3 + c4 + c5 + c6 + c7 := by
  have e1 : a / 256 = c1 + 256 * (c2 + 256 * (c3 + 256 * (c4 + 256 * (c5 + 256 * (c6 + 256 * c7))))) := by rw [ha]; exact divq _ _ _ (by clear ha; omega)
  have hb : a + a / 256 = (c0 + c1 + 256 * (c1 + c2)) + 65536 * ((c2 + c3) + 256 * ((c3 + c4) + 256 * ((c4 + c5) + 256 * ((c5 + c6) + 256 * ((c6 + c7) + 256 * c7))))) := by rw [e1, ha]; exact lin1 _ _ _ _ _ _ _ _
  clear ha e1
  rw [hb, divq _ 65536 _ (by clear hb; omega), lin2, divq _ 4294967296 _ (by clear hb; omega), lin3, Nat.add_mul_mod_self_left, Nat.mod_eq_of_lt (by clear hb; omega)]
theorem swar_eq (x : Nat) (hx : x < 18446744073709551616) : swar x = popc x 64 := by
  obtain ⟨a0, a1, a2, a3, a4, a5, a6, a7, h, rfl⟩ := bytes8 x hx
  generalize hl : [a0, a1, a2, a3, a4, a5, a6, a7] = l at *
  have h1 := f1_val l h
  have h2 := f2_val _ h1.2
  have h3 := f3_val ((l.map (f1 85)).map (f2 51)) (by
    intro a ha
    refine ⟨h2.2 a ha, ?_⟩
    simp only [List.map_map, List.mem_map, Function.comp] at ha
    obtain ⟨b, hb, rfl⟩ := ha
    have := d4 ⟨b, h b hb⟩
    exact ⟨this.1, this.2.1⟩)
  have hlen : l.length = 8 := by rw [← hl]; rfl
  simp only [List.length_map, hlen] at h1 h2 h3
  have e1 : rep 85 8 = 6148914691236517205 := by decide
  have e2 : rep 51 8 = 3689348814741910323 := by decide
  have e3 : rep 15 8 = 1085102592571150095 := by decide
  rw [e1] at h1; rw [e2] at h2; rw [e3] at h3
  unfold swar
  rw [h1.1, h2.1, h3]
  subst hl
  simp only [List.mem_cons, List.not_mem_nil, or_false, forall_eq_or_imp, forall_eq] at h
  obtain ⟨b0, b1, b2, b3, b4, b5, b6, b7⟩ := h
  simp only [List.map_cons, List.map_nil]
  have p : ∀ a, a < 256 → f3 15 (f2 51 (f1 85 a)) = popc a 8 := fun a ha => (d4 ⟨a, ha⟩).2.2
  rw [p _ b0, p _ b1, p _ b2, p _ b3, p _ b4, p _ b5, p _ b6, p _ b7]
  have hp : popc (val [a0, a1, a2, a3, a4, a5, a6, a7]) 64 = popc a0 8 + (popc a1 8 + (popc a2 8 + (popc a3 8 + (popc a4 8 + (popc a5 8 + (popc a6 8 + (popc a7 8 + 0))))))) := by
    simp only [val]
    rw [show (64 : Nat) = 8 + (8 + (8 + (8 + (8 + (8 + (8 + (8 + 0))))))) from rfl, popc_val _ _ _ b0, popc_val _ _ _ b1, popc_val _ _ _ b2, popc_val _ _ _ b3, popc_val _ _ _ b4, popc_val _ _ _ b5, popc_val _ _ _ b6, popc_val _ _ _ b7]
    rfl
  rw [hp]
  have q0 := popc_le a0 8; have q1 := popc_le a1 8; have q2 := popc_le a2 8; have q3 := popc_le a3 8
  have q4 := popc_le a4 8; have q5 := popc_le a5 8; have q6 := popc_le a6 8; have q7 := popc_le a7 8
  rw [fin8 _ _ _ _ _ _ _ _ q0 q1 q2 q3 q4 q5 q6 q7 _ (by simp only [val, Nat.mul_zero, Nat.add_zero])]
  clear hp h1 h2 h3 e1 e2 e3 p
  omega
end Go.Proofs.YtaafchcpnceddaaDoor.WordMath
