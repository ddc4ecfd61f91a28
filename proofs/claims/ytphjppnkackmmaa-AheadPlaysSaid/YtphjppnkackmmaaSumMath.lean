/- CRC-32's arithmetic: halvings, their linearity, sums of bytes and words, seals, bursts. No program stands here. -/
import Derived.WalkKit
set_option linter.unusedSimpArgs false
set_option linter.unusedVariables false
namespace Go.Proofs.Ytphjppnkackmmaa.SumMath

/-- The polynomial. -/
def pol : Nat := 3988292384
/-- All 32 bits. -/
def M : Nat := 4294967295
/-- One halving. -/
def half (c : Nat) : Nat := if c % 2 = 1 then c / 2 ^^^ pol else c / 2
def halves : Nat → Nat → Nat
  | 0, c => c
  | n + 1, c => halves n (half c)

theorem xor_left_comm (a b c : Nat) : a ^^^ (b ^^^ c) = b ^^^ (a ^^^ c) := by rw [← Nat.xor_assoc, Nat.xor_comm a b, Nat.xor_assoc]
theorem half_xor (a b : Nat) : half (a ^^^ b) = half a ^^^ half b := by
  unfold half
  have h := Nat.xor_mod_two_eq_one (a := a) (b := b)
  rw [Nat.xor_div_two]
  by_cases ha : a % 2 = 1 <;> by_cases hb : b % 2 = 1
  · have : ¬ (a ^^^ b) % 2 = 1 := by rw [h]; simp [ha, hb]
    simp only [ha, hb, this, if_true, if_false]
    rw [Nat.xor_assoc, Nat.xor_comm pol, Nat.xor_assoc, Nat.xor_self, Nat.xor_zero]
  · have : (a ^^^ b) % 2 = 1 := by rw [h]; simp [ha, hb]
    simp only [ha, hb, this, if_true, if_false]
    rw [Nat.xor_assoc, Nat.xor_comm (b / 2), ← Nat.xor_assoc]
  · have : (a ^^^ b) % 2 = 1 := by rw [h]; simp [ha, hb]
    simp only [ha, hb, this, if_true, if_false]
    rw [Nat.xor_assoc]
  · have : ¬ (a ^^^ b) % 2 = 1 := by rw [h]; simp [ha, hb]
    simp only [ha, hb, this, if_false]
theorem half_zero : half 0 = 0 := rfl
theorem half_two_mul (q : Nat) : half (2 * q) = q := by
  unfold half
  rw [if_neg (by omega)]; omega
theorem halves_xor (n : Nat) : ∀ a b, halves n (a ^^^ b) = halves n a ^^^ halves n b := by
  induction n with
  | zero => intro a b; rfl
  | succ n ih => intro a b; simp only [halves]; rw [half_xor, ih]
theorem halves_zero (n : Nat) : halves n 0 = 0 := by
  induction n with
  | zero => rfl
  | succ n ih => simp only [halves]; rw [half_zero, ih]
theorem halves_add (m n : Nat) : ∀ c, halves (m + n) c = halves n (halves m c) := by
  induction m with
  | zero => intro c; rw [Nat.zero_add]; rfl
  | succ m ih => intro c; rw [show m + 1 + n = (m + n) + 1 by omega]; simp only [halves]; rw [ih]
theorem halves_mul (n q : Nat) : halves n (2 ^ n * q) = q := by
  induction n with
  | zero => simp [halves]
  | succ n ih =>
    simp only [halves]
    rw [show 2 ^ (n + 1) * q = 2 * (2 ^ n * q) by rw [Nat.pow_succ, Nat.mul_comm (2 ^ n) 2, Nat.mul_assoc], half_two_mul, ih]
theorem add_xor (n q r : Nat) (h : r < 2 ^ n) : 2 ^ n * q + r = r ^^^ 2 ^ n * q := by
  apply Nat.eq_of_testBit_eq
  intro i
  rw [Nat.testBit_two_pow_mul_add _ h, Nat.testBit_xor, Nat.testBit_two_pow_mul]
  by_cases hi : i < n
  · have : ¬ n ≤ i := by omega
    simp [hi, this]
  · have h1 : n ≤ i := by omega
    have : r.testBit i = false := Nat.testBit_lt_two_pow (Nat.lt_of_lt_of_le h (Nat.pow_le_pow_right (by decide) h1))
    simp [hi, h1, this]
theorem split_xor (n c : Nat) : c = c % 2 ^ n ^^^ 2 ^ n * (c / 2 ^ n) := by
  rw [← add_xor n _ _ (Nat.mod_lt _ (Nat.two_pow_pos _))]
  exact (Nat.div_add_mod c (2 ^ n)).symm
/-- Four halvings, by a table. -/
def tab : List Nat := [0, 498536548, 997073096, 651767980, 1994146192, 1802195444, 1303535960, 1342533948, 3988292384, 4027552580, 3604390888, 3412177804, 2607071920, 2262029012, 2685067896, 3183342108]
theorem tab_all : ∀ r : Fin 16, halves 4 r.val = tab.getD r.val 0 := by decide +kernel
theorem tab_lt : ∀ r : Nat, tab.getD r 0 < 4294967296 := by
  intro r
  by_cases h : r < 16
  · have : ∀ r : Fin 16, tab.getD r.val 0 < 4294967296 := by decide +kernel
    exact this ⟨r, h⟩
  · rw [List.getD_eq_getElem?_getD, List.getElem?_eq_none (by simp [tab]; omega)]; decide
theorem halves_four (c : Nat) : halves 4 c = c / 16 ^^^ tab.getD (c % 16) 0 := by
  have h := split_xor 4 c
  rw [show (2 : Nat) ^ 4 = 16 by decide] at h
  have h2 : halves 4 c = halves 4 (c % 16 ^^^ 16 * (c / 16)) := by rw [← h]
  rw [h2, halves_xor]
  have h3 := halves_mul 4 (c / 16)
  rw [show (2 : Nat) ^ 4 = 16 by decide] at h3
  rw [h3, tab_all ⟨c % 16, by omega⟩, Nat.xor_comm]
/-- A number updated with a byte. -/
def upd (c b : Nat) : Nat := halves 8 (c ^^^ b)
theorem upd_tab (c b : Nat) : upd c b = (halves 4 (c ^^^ b)) / 16 ^^^ tab.getD ((halves 4 (c ^^^ b)) % 16) 0 := by
  rw [← halves_four]
  exact halves_add 4 4 _
theorem half_lt {c : Nat} (h : c < 4294967296) : half c < 4294967296 := by
  unfold half
  split
  · exact Nat.xor_lt_two_pow (n := 32) (by omega) (by decide)
  · omega
theorem halves_lt32 (n : Nat) : ∀ {c : Nat}, c < 4294967296 → halves n c < 4294967296 := by
  induction n with
  | zero => intro c h; exact h
  | succ n ih => intro c h; exact ih (half_lt h)
theorem half_lt_more {c m : Nat} (h : c < 2 ^ (32 + (m + 1))) : half c < 2 ^ (32 + m) := by
  have h1 : c / 2 < 2 ^ (32 + m) := by
    rw [show 32 + (m + 1) = (32 + m) + 1 by omega, Nat.pow_succ] at h
    omega
  unfold half
  split
  · refine Nat.xor_lt_two_pow h1 (Nat.lt_of_lt_of_le (show pol < 2 ^ 32 by decide) (Nat.pow_le_pow_right (by decide) (by omega)))
  · exact h1
theorem halves_lt (n : Nat) : ∀ {c : Nat}, c < 2 ^ (32 + n) → halves n c < 4294967296 := by
  induction n with
  | zero => intro c h; exact h
  | succ n ih => intro c h; exact ih (half_lt_more h)
theorem upd_lt {c b : Nat} (hc : c < 4294967296) (hb : b < 256) : upd c b < 4294967296 :=
  halves_lt32 8 (Nat.xor_lt_two_pow (n := 32) hc (by omega))
/-- A number updated with bytes. -/
def crc (c : Nat) (s : List Nat) : Nat := s.foldl upd c
theorem crc_append (c : Nat) (s t : List Nat) : crc c (s ++ t) = crc (crc c s) t := List.foldl_append
theorem crc_snoc (c : Nat) (s : List Nat) (b : Nat) : crc c (s ++ [b]) = upd (crc c s) b := by rw [crc_append]; rfl
theorem crc_lt {s : List Nat} : ∀ {c : Nat}, c < 4294967296 → (∀ b ∈ s, b < 256) → crc c s < 4294967296 := by
  induction s with
  | nil => intro c h _; exact h
  | cons b s ih => intro c h hs; exact ih (upd_lt h (hs b (by simp))) (fun x hx => hs x (by simp [hx]))
theorem flip_lt {c : Nat} (h : c < 4294967296) : c ^^^ M < 4294967296 := Nat.xor_lt_two_pow (n := 32) h (by decide)
theorem flip_sub {c : Nat} (h : c < 4294967296) : M - c = c ^^^ M := by
  apply Nat.eq_of_testBit_eq
  intro i
  have e : M - c = 2 ^ 32 - (c + 1) := by unfold M; omega
  rw [e, Nat.testBit_two_pow_sub_succ (by simpa using h), Nat.testBit_xor, show M = 2 ^ 32 - 1 by decide, Nat.testBit_two_pow_sub_one]
  by_cases hi : i < 32
  · simp [hi]
  · have : c.testBit i = false := Nat.testBit_lt_two_pow (Nat.lt_of_lt_of_le h (Nat.pow_le_pow_right (n := 2) (by decide) (show 32 ≤ i by omega)))
    simp [hi, this]
theorem flip_two (c : Nat) : c ^^^ M ^^^ M = c := by rw [Nat.xor_assoc, Nat.xor_self, Nat.xor_zero]
/-- The bytes of a text. -/
def bytesN (s : List UInt8) : List Nat := s.map UInt8.toNat
theorem bytesN_lt (s : List UInt8) : ∀ b ∈ bytesN s, b < 256 := by
  intro b hb
  simp only [bytesN, List.mem_map] at hb
  obtain ⟨x, _, rfl⟩ := hb
  exact x.toNat_lt
/-- More. -/
def moreV (c : Nat) (s : List Nat) : Nat := crc (c ^^^ M) s ^^^ M
theorem moreV_lt {c : Nat} {s : List Nat} (h : c < 4294967296) (hs : ∀ b ∈ s, b < 256) : moreV c s < 4294967296 := flip_lt (crc_lt (flip_lt h) hs)
theorem moreV_append (c : Nat) (s t : List Nat) : moreV c (s ++ t) = moreV (moreV c s) t := by unfold moreV; rw [flip_two, crc_append]
theorem moreV_nil (c : Nat) : moreV c [] = c := flip_two c

/-! ### words -/
/-- The number of w's byte j. -/
def oct (w j : Nat) : Nat := w / 2 ^ (8 * j) % 256
theorem oct_lt (w j : Nat) : oct w j < 256 := Nat.mod_lt _ (by decide)
def octs (w k : Nat) : List Nat := (List.range k).map (oct w)
theorem octs_succ (w k : Nat) : octs w (k + 1) = octs w k ++ [oct w k] := by simp [octs, List.range_succ]
theorem octs_lt (w k : Nat) : ∀ b ∈ octs w k, b < 256 := by
  intro b hb
  simp only [octs, List.mem_map] at hb
  obtain ⟨j, _, rfl⟩ := hb
  exact oct_lt w j
theorem mod_step (w k : Nat) : w % 2 ^ (8 * (k + 1)) = w % 2 ^ (8 * k) ^^^ 2 ^ (8 * k) * oct w k := by
  rw [← add_xor _ _ _ (Nat.mod_lt _ (Nat.two_pow_pos _)), show 8 * (k + 1) = 8 * k + 8 by omega, Nat.pow_add]
  unfold oct
  have := Nat.mod_mul (x := w) (a := 2 ^ (8 * k)) (b := 2 ^ 8)
  rw [this, Nat.add_comm]
theorem crc_octs (c w k : Nat) : crc c (octs w k) = halves (8 * k) (c ^^^ w % 2 ^ (8 * k)) := by
  induction k with
  | zero => simp [octs, crc, halves, Nat.mod_one]
  | succ k ih =>
    rw [octs_succ, crc_snoc, ih, mod_step]
    unfold upd
    have h := halves_mul (8 * k) (oct w k)
    have : halves (8 * k) (c ^^^ w % 2 ^ (8 * k)) ^^^ oct w k = halves (8 * k) (c ^^^ (w % 2 ^ (8 * k) ^^^ 2 ^ (8 * k) * oct w k)) := by
      rw [← Nat.xor_assoc, halves_xor (8 * k) (c ^^^ w % 2 ^ (8 * k)), h]
    rw [this, ← halves_add, show 8 * k + 8 = 8 * (k + 1) by omega]
/-- A number updated with a word. -/
def wupd (c w : Nat) : Nat := halves 64 (c ^^^ w)
theorem wupd_octs {c w : Nat} (h : w < 18446744073709551616) : crc c (octs w 8) = wupd c w := by
  unfold wupd; rw [crc_octs, Nat.mod_eq_of_lt (by simpa using h)]
def wcrc (c : Nat) (l : List Nat) : Nat := l.foldl wupd c
theorem wcrc_cons (c w : Nat) (l : List Nat) : wcrc c (w :: l) = wcrc (wupd c w) l := by unfold wcrc; rw [List.foldl_cons]
theorem wcrc_snoc (c w : Nat) (l : List Nat) : wcrc c (l ++ [w]) = wupd (wcrc c l) w := by unfold wcrc; rw [List.foldl_append, List.foldl_cons, List.foldl_nil]
/-- All bytes of words. -/
def allOcts (l : List Nat) : List Nat := (l.map fun w => octs w 8).flatten
theorem allOcts_cons (w : Nat) (l : List Nat) : allOcts (w :: l) = octs w 8 ++ allOcts l := rfl
theorem allOcts_append (l m : List Nat) : allOcts (l ++ m) = allOcts l ++ allOcts m := by simp [allOcts]
theorem allOcts_snoc (l : List Nat) (w : Nat) : allOcts (l ++ [w]) = allOcts l ++ octs w 8 := by rw [allOcts_append]; simp [allOcts]
theorem crc_all {l : List Nat} : ∀ {c : Nat}, (∀ w ∈ l, w < 18446744073709551616) → crc c (allOcts l) = wcrc c l := by
  induction l with
  | nil => intro c _; unfold crc wcrc; rw [List.foldl_nil]; exact List.foldl_nil
  | cons w l ih =>
    intro c h
    rw [allOcts_cons, crc_append, wupd_octs (h w (by simp)), ih (fun x hx => h x (by simp [hx])), wcrc_cons]
theorem wupd_lt {c w : Nat} (hc : c < 4294967296) (hw : w < 18446744073709551616) : wupd c w < 4294967296 :=
  halves_lt 64 (Nat.xor_lt_two_pow (Nat.lt_of_lt_of_le hc (by decide)) (Nat.lt_of_lt_of_le hw (by decide)))
theorem wcrc_lt {l : List Nat} : ∀ {c : Nat}, c < 4294967296 → (∀ w ∈ l, w < 18446744073709551616) → wcrc c l < 4294967296 := by
  induction l with
  | nil => intro c h _; exact h
  | cons w l ih => intro c h hs; rw [wcrc_cons]; exact ih (wupd_lt h (hs w (by simp))) (fun x hx => hs x (by simp [hx]))
/-- The checksum of words. -/
def wordsV (l : List Nat) : Nat := wcrc M l ^^^ M
theorem wordsV_lt {l : List Nat} (h : ∀ w ∈ l, w < 18446744073709551616) : wordsV l < 4294967296 := flip_lt (wcrc_lt (by decide) h)
/-- The sum of exclusive ors. -/
theorem wcrc_xor3 (f g h : Nat → Nat) (p q r : Nat) (n : Nat) :
    wcrc (p ^^^ q ^^^ r) ((List.range n).map fun i => f i ^^^ g i ^^^ h i) = wcrc p ((List.range n).map f) ^^^ wcrc q ((List.range n).map g) ^^^ wcrc r ((List.range n).map h) := by
  induction n with
  | zero => rfl
  | succ n ih =>
    simp only [List.range_succ, List.map_append, List.map_cons, List.map_nil, wcrc_snoc]
    rw [ih]
    unfold wupd
    rw [← halves_xor, ← halves_xor]
    congr 1
    ac_rfl
theorem wordsV_xor3 (f g h : Nat → Nat) (n : Nat) :
    wordsV ((List.range n).map fun i => f i ^^^ g i ^^^ h i) = wordsV ((List.range n).map f) ^^^ wordsV ((List.range n).map g) ^^^ wordsV ((List.range n).map h) := by
  unfold wordsV
  have hM : M ^^^ M ^^^ M = M := by decide
  have := wcrc_xor3 f g h M M M n
  rw [hM] at this
  rw [this]
  generalize wcrc M ((List.range n).map f) = x
  generalize wcrc M ((List.range n).map g) = y
  generalize wcrc M ((List.range n).map h) = z
  have e : (x ^^^ M) ^^^ (y ^^^ M) ^^^ (z ^^^ M) = x ^^^ y ^^^ z ^^^ (M ^^^ M ^^^ M) := by
    ac_rfl
  rw [e, hM]

/-! ### seals -/
def sealW (l : List Nat) : Nat := 4294967296 * (wordsV l ^^^ M) + wordsV l
theorem sealW_lt {l : List Nat} (h : ∀ w ∈ l, w < 18446744073709551616) : sealW l < 18446744073709551616 := by
  have h1 := wordsV_lt h
  have h2 := flip_lt h1
  unfold sealW; omega
def sealed (l : List Nat) : List Nat := l ++ [sealW l]
/-- They are sealed words. -/
def isSealed (y : List Nat) : Prop := 0 < y.length ∧ y.getD (y.length - 1) 0 = sealW (y.take (y.length - 1))
instance (y : List Nat) : Decidable (isSealed y) := by unfold isSealed; infer_instance
theorem isSealed_sealed (l : List Nat) : isSealed (sealed l) := by
  unfold isSealed sealed
  simp
theorem sealed_take (l : List Nat) : (sealed l).take ((sealed l).length - 1) = l := by simp [sealed]

/-! ### bursts -/
/-- Words as one number. -/
def num : List Nat → Nat
  | [] => 0
  | w :: l => 2 ^ 64 * num l + w
theorem num_cons (w : Nat) (l : List Nat) : num (w :: l) = 2 ^ 64 * num l + w := rfl
theorem num_testBit {l : List Nat} : (∀ w ∈ l, w < 18446744073709551616) → ∀ i, (num l).testBit i = (l.getD (i / 64) 0).testBit (i % 64) := by
  induction l with
  | nil => intro _ i; simp [num]
  | cons w l ih =>
    intro h i
    have hw : w < 2 ^ 64 := by simpa using h w (by simp)
    unfold num
    rw [Nat.testBit_two_pow_mul_add _ hw]
    by_cases hi : i < 64
    · have e1 : i / 64 = 0 := by omega
      have e2 : i % 64 = i := by omega
      simp [hi, e1, e2]
    · rw [if_neg hi, ih (fun x hx => h x (by simp [hx]))]
      obtain ⟨j, rfl⟩ : ∃ j, i = j + 64 := ⟨i - 64, by omega⟩
      have e1 : (j + 64) / 64 = j / 64 + 1 := by omega
      rw [e1, Nat.add_sub_cancel]
      have e2 : (j + 64) % 64 = j % 64 := by omega
      rw [e2]
      simp
theorem num_lt {l : List Nat} : (∀ w ∈ l, w < 18446744073709551616) → num l < 2 ^ (64 * l.length) := by
  induction l with
  | nil => intro _; simp [num]
  | cons w l ih =>
    intro h
    have h1 := ih (fun x hx => h x (by simp [hx]))
    have hw : w < 2 ^ 64 := by simpa using h w (by simp)
    unfold num
    rw [List.length_cons, show 64 * (l.length + 1) = 64 + 64 * l.length by omega, Nat.pow_add]
    have := Nat.mul_le_mul_left (2 ^ 64) (show num l + 1 ≤ 2 ^ (64 * l.length) by omega)
    omega
theorem num_append (l : List Nat) (d : Nat) : (∀ w ∈ l, w < 18446744073709551616) → num (l ++ [d]) = num l ^^^ 2 ^ (64 * l.length) * d := by
  intro h
  rw [← add_xor _ _ _ (num_lt h)]
  induction l with
  | nil => simp [num]
  | cons w l ih =>
    simp only [List.cons_append, num]
    rw [ih (fun x hx => h x (by simp [hx])), List.length_cons, show 64 * (l.length + 1) = 64 + 64 * l.length by omega, Nat.pow_add, Nat.mul_assoc, Nat.mul_add]
    omega
theorem num_inj {l m : List Nat} (hl : ∀ w ∈ l, w < 18446744073709551616) (hm : ∀ w ∈ m, w < 18446744073709551616) (hlen : l.length = m.length) (h : num l = num m) : l = m := by
  induction l generalizing m with
  | nil => exact (List.eq_nil_of_length_eq_zero hlen.symm).symm
  | cons w l ih =>
    cases m with
    | nil => simp at hlen
    | cons v m =>
      have hw : w < 18446744073709551616 := hl w (by simp)
      have hv : v < 18446744073709551616 := hm v (by simp)
      unfold num at h
      rw [show (2 : Nat) ^ 64 = 18446744073709551616 by decide] at h
      have e1 : w = v := by omega
      have e2 : num l = num m := by omega
      rw [e1, ih (fun x hx => hl x (by simp [hx])) (fun x hx => hm x (by simp [hx])) (by simpa using hlen) e2]
theorem wcrc_num {l : List Nat} : ∀ {c : Nat}, (∀ w ∈ l, w < 18446744073709551616) → wcrc c l = halves (64 * l.length) (c ^^^ num l) := by
  induction l with
  | nil => intro c _; simp [wcrc, num, halves]
  | cons w l ih =>
    intro c h
    have hw : w < 2 ^ 64 := by simpa using h w (by simp)
    rw [wcrc_cons, ih (fun x hx => h x (by simp [hx])), List.length_cons, show 64 * (l.length + 1) = 64 + 64 * l.length by omega, halves_add]
    unfold wupd
    rw [num_cons, add_xor _ _ _ hw, ← Nat.xor_assoc, halves_xor 64 (c ^^^ w), halves_mul]
theorem half_ne {t : Nat} (h0 : t ≠ 0) (h : t < 4294967296) : half t ≠ 0 := by
  unfold half
  split
  · intro he
    have : t / 2 = pol := by
      have e := congrArg (· ^^^ pol) he
      simp only [Nat.xor_assoc, Nat.xor_self, Nat.xor_zero, Nat.zero_xor] at e
      exact e
    unfold pol at this; omega
  · omega
theorem halves_ne (n : Nat) : ∀ {t : Nat}, t ≠ 0 → t < 4294967296 → halves n t ≠ 0 := by
  induction n with
  | zero => intro t h _; exact h
  | succ n ih => intro t h0 h; exact ih (half_ne h0 h) (half_lt h)
/-- A burst is not a multiple of the polynomial. -/
theorem burst_ne {n k t : Nat} (ht : t ≠ 0) (ht2 : t < 4294967296) (hk : k ≤ n) : halves n (2 ^ k * t) ≠ 0 := by
  obtain ⟨m, rfl⟩ : ∃ m, n = k + m := ⟨n - k, by omega⟩
  rw [halves_add, halves_mul]
  exact halves_ne m ht ht2
theorem sealW_xor (l : List Nat) (h : ∀ w ∈ l, w < 18446744073709551616) : sealW l = wordsV l ^^^ 2 ^ 32 * (wordsV l ^^^ M) := by
  rw [← add_xor _ _ _ (by simpa using wordsV_lt h)]
  rfl
theorem xor_mul_pow (n a b : Nat) : 2 ^ n * (a ^^^ b) = 2 ^ n * a ^^^ 2 ^ n * b := by
  apply Nat.eq_of_testBit_eq
  intro i
  simp only [Nat.testBit_two_pow_mul, Nat.testBit_xor]
  cases decide (i ≥ n) <;> simp
/-- The theorem: a burst in sealed words is told. -/
theorem burst_told {l y : List Nat} {k t : Nat} (hl : ∀ w ∈ l, w < 18446744073709551616) (hy : ∀ w ∈ y, w < 18446744073709551616) (hlen : y.length = l.length + 1) (ht : t < 4294967296)
    (hn : num y = num (sealed l) ^^^ 2 ^ k * t) (hs : isSealed y) : t = 0 := by
  have key : ∃ z d, y = z ++ [d] ∧ z.length = l.length := by
    refine ⟨y.take l.length, y.getD l.length 0, ?_, by simp; omega⟩
    apply List.ext_getElem
    · simp; omega
    · intro i h1 h2
      simp [List.getElem_append]
      intro h3
      have : i = l.length := by omega
      subst this
      simp [List.getElem?_eq_getElem h1]
  obtain ⟨z, d, rfl, hz⟩ := key
  have hzw : ∀ w ∈ z, w < 18446744073709551616 := fun w hw => hy w (by simp [hw])
  have hd : d = sealW z := by
    have := hs.2
    simpa using this
  have hsl := sealW_lt hl
  unfold sealed at hn
  rw [num_append z d hzw, num_append l _ hl, hz, hd] at hn
  -- the difference, in two parts
  have hD : (num z ^^^ num l) ^^^ 2 ^ (64 * l.length) * (sealW z ^^^ sealW l) = 2 ^ k * t := by
    rw [xor_mul_pow]
    have e := congrArg (· ^^^ (num l ^^^ 2 ^ (64 * l.length) * sealW l)) hn
    have e2 : num l ^^^ 2 ^ (64 * l.length) * sealW l ^^^ 2 ^ k * t ^^^ (num l ^^^ 2 ^ (64 * l.length) * sealW l) = 2 ^ k * t := by
      rw [Nat.xor_comm, ← Nat.xor_assoc, Nat.xor_self, Nat.zero_xor]
    rw [e2] at e
    rw [← e]
    ac_rfl
  have hlow : num z ^^^ num l < 2 ^ (64 * l.length) := Nat.xor_lt_two_pow (by rw [← hz]; exact num_lt hzw) (num_lt hl)
  have hE : wordsV z ^^^ wordsV l = halves (64 * l.length) (num z ^^^ num l) := by
    unfold wordsV
    rw [wcrc_num hzw, wcrc_num hl, hz]
    have : ∀ a b : Nat, a ^^^ M ^^^ (b ^^^ M) = a ^^^ b := by
      intro a b
      rw [Nat.xor_comm b M, Nat.xor_assoc, ← Nat.xor_assoc M M b, Nat.xor_self, Nat.zero_xor]
    rw [this, ← halves_xor]
    congr 1
    rw [Nat.xor_comm M (num z), Nat.xor_assoc, ← Nat.xor_assoc M M, Nat.xor_self, Nat.zero_xor]
  have hS : sealW z ^^^ sealW l = (wordsV z ^^^ wordsV l) ^^^ 2 ^ 32 * (wordsV z ^^^ wordsV l) := by
    rw [sealW_xor z hzw, sealW_xor l hl, xor_mul_pow, xor_mul_pow, xor_mul_pow]
    have : ∀ a b p q m : Nat, a ^^^ (p ^^^ m) ^^^ (b ^^^ (q ^^^ m)) = a ^^^ b ^^^ (p ^^^ q) := by
      intro a b p q m
      have : a ^^^ (p ^^^ m) ^^^ (b ^^^ (q ^^^ m)) = a ^^^ b ^^^ (p ^^^ q) ^^^ (m ^^^ m) := by ac_rfl
      rw [this, Nat.xor_self, Nat.xor_zero]
    exact this _ _ _ _ _
  have hElt : wordsV z ^^^ wordsV l < 2 ^ 32 := Nat.xor_lt_two_pow (by simpa using wordsV_lt hzw) (by simpa using wordsV_lt hl)
  rw [hS] at hD
  generalize wordsV z ^^^ wordsV l = e at *
  by_cases he : e = 0
  · subst he
    rw [Nat.mul_zero, Nat.xor_zero, Nat.mul_zero, Nat.xor_zero] at hD
    rw [hD] at hE hlow
    refine Classical.byContradiction fun h0 => ?_
    have hk : k ≤ 64 * l.length := by
      refine Nat.le_of_not_lt fun hlt => ?_
      have h1 : 2 ^ (64 * l.length) ≤ 2 ^ k := Nat.pow_le_pow_right (by decide) (by omega)
      have h2 : 2 ^ k * 1 ≤ 2 ^ k * t := Nat.mul_le_mul_left _ (by omega)
      omega
    exact burst_ne h0 ht hk hE.symm
  · exfalso
    obtain ⟨j, hj⟩ := Nat.exists_testBit_of_ne_zero he
    have hj32 : j < 32 := by
      refine Nat.lt_of_not_le fun hge => ?_
      rw [Nat.testBit_lt_two_pow (Nat.lt_of_lt_of_le hElt (Nat.pow_le_pow_right (by decide) hge))] at hj
      cases hj
    have hbit : ∀ i, (2 ^ k * t).testBit (64 * l.length + i) = (e ^^^ 2 ^ 32 * e).testBit i := by
      intro i
      rw [← hD, Nat.testBit_xor, Nat.testBit_lt_two_pow (Nat.lt_of_lt_of_le hlow (Nat.pow_le_pow_right (by decide) (by omega))), Nat.testBit_two_pow_mul]
      simp
    have b1 := hbit j
    have b2 := hbit (j + 32)
    have e32 : e.testBit (j + 32) = false := Nat.testBit_lt_two_pow (Nat.lt_of_lt_of_le hElt (Nat.pow_le_pow_right (by decide) (by omega)))
    have n1 : ¬ 32 ≤ j := by omega
    have n2 : 32 ≤ j + 32 := by omega
    simp only [Nat.testBit_xor, Nat.testBit_two_pow_mul, hj, e32, ge_iff_le, n1, n2, Nat.add_sub_cancel, decide_false, decide_true, Bool.false_and, Bool.true_and, Bool.xor_false, Bool.xor_true, Bool.and_eq_true, decide_eq_true_eq] at b1 b2
    have : t.testBit (64 * l.length + (j + 32) - k) = false := Nat.testBit_lt_two_pow (Nat.lt_of_lt_of_le (show t < 2 ^ 32 by simpa using ht) (Nat.pow_le_pow_right (by decide) (by omega)))
    rw [this] at b2
    rw [Bool.and_false] at b2
    cases b2
end Go.Proofs.Ytphjppnkackmmaa.SumMath
