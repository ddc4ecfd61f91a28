/- The small functions of entry: numbers within bounds, bytes that a name lacks, fields of words, errors; which slots may be. -/
import Derived.Test.YtipghcpodhokbaaDoorSloMath
import Derived.Test.YtipghcpodhokbaaDoorGeoCk
import Derived.Test.YtipghcpodhokbaaDoorWordT
import Derived.RegionTactic
import Derived.BigRegion
import Derived.Lib.Bytealg
set_option linter.unusedSimpArgs false
set_option linter.unusedVariables false
namespace Go.Proofs.YtipghcpodhokbaaDoor
open Go.RowKit WordMath
/-- Is a number within bounds? -/
def wi (n lo hi : Int) : Bool := decide (lo ≤ n ∧ n ≤ hi)
theorem wi_yes {n lo hi : Int} (h1 : lo ≤ n) (h2 : n ≤ hi) : wi n lo hi = true := by simp [wi, h1, h2]
theorem wi_no {n lo hi : Int} (h : n < lo ∨ hi < n) : wi n lo hi = false := by simp [wi]; omega
theorem wint_calls (n lo hi : Int) (w : World) : Calls Tryd.prog 29 #[.int .i64 n, .int .i64 lo, .int .i64 hi] w fun e w' => e = .returned (.bool (wi n lo hi)) ∧ w = w' := by
  by_cases h1 : lo ≤ n
  · by_cases h2 : n ≤ hi
    · rw [wi_yes h1 h2]
      go_enter Tryd.func29, Tryd.ntmps29
      go_wp2
      go_ret
      exact ⟨rfl, rfl⟩
    · rw [wi_no (by omega)]
      have h3 : decide (n ≤ hi) = false := by rw [decide_eq_false_iff_not]; omega
      clear h2
      go_enter Tryd.func29, Tryd.ntmps29
      go_wp2
      go_ret
      exact ⟨by simp, rfl⟩
  · rw [wi_no (by omega)]
    have h3 : decide (lo ≤ n) = false := by rw [decide_eq_false_iff_not]; omega
    clear h1
    go_enter Tryd.func29, Tryd.ntmps29
    go_wp2
    go_ret
    exact ⟨by simp, rfl⟩
theorem wint8_calls (n lo hi : Int) (w : World) : Calls Tryd.prog 48 #[.int .u8 n, .int .u8 lo, .int .u8 hi] w fun e w' => e = .returned (.bool (wi n lo hi)) ∧ w = w' := by
  by_cases h1 : lo ≤ n
  · by_cases h2 : n ≤ hi
    · rw [wi_yes h1 h2]
      go_enter Tryd.func48, Tryd.ntmps48
      go_wp2
      go_ret
      exact ⟨rfl, rfl⟩
    · rw [wi_no (by omega)]
      have h3 : decide (n ≤ hi) = false := by rw [decide_eq_false_iff_not]; omega
      clear h2
      go_enter Tryd.func48, Tryd.ntmps48
      go_wp2
      go_ret
      exact ⟨by simp, rfl⟩
  · rw [wi_no (by omega)]
    have h3 : decide (lo ≤ n) = false := by rw [decide_eq_false_iff_not]; omega
    clear h1
    go_enter Tryd.func48, Tryd.ntmps48
    go_wp2
    go_ret
    exact ⟨by simp, rfl⟩
/-! ### bytes that a name lacks -/
def lacB (s : ByteArray) (b : UInt8) : Bool := decide (Lib.indexByte s.data.toList b < 0)
theorem indexByte_neg (l : List UInt8) (b : UInt8) : Lib.indexByte l b < 0 ↔ b ∉ l := by
  induction l with
  | nil => simp [Lib.indexByte]
  | cons x l ih =>
    have h := Lib.indexByte_ge l b
    unfold Lib.indexByte
    by_cases hx : x = b
    · subst hx; simp
    · have hx2 : (x == b) = false := by simpa using hx
      have hx3 : ¬ b = x := fun e => hx e.symm
      rw [hx2]
      simp only [List.mem_cons, hx3, false_or, ← ih, Bool.false_eq_true, if_false]
      split
      · rename_i h1
        have : Lib.indexByte l b = -1 := by simpa using h1
        omega
      · rename_i h1
        have : ¬ Lib.indexByte l b = -1 := by simpa using h1
        omega
theorem plain_lac (s : ByteArray) : plainB s = (lacB s 0 && lacB s 47) := by
  unfold plainB lacB
  rw [Bool.eq_iff_iff]
  simp only [List.all_eq_true, Bool.and_eq_true, decide_eq_true_eq, indexByte_neg, bne_iff_ne, ne_eq]
  constructor
  · intro h
    exact ⟨fun h0 => (h _ h0).1 rfl, fun h0 => (h _ h0).2 rfl⟩
  · rintro ⟨h1, h2⟩ b hb
    exact ⟨fun e => h1 (e ▸ hb), fun e => h2 (e ▸ hb)⟩
theorem slite_calls (s : ByteArray) (c : Int) (w : World) :
    Calls Tryd.prog 69 #[.string s, .int .u8 c] w fun e w' => e = .returned (.int .i64 (Lib.indexByte s.data.toList c.toNat.toUInt8)) ∧ w = w' := by
  go_enter Tryd.func69, Tryd.ntmps69
  go_wp2
  rw [run_callFunc_extern Tryd.func70 (by kernel_rfl) (by kernel_rfl) (by kernel_rfl) (e := Extern.BytealgIndexByte.indexByte) (by kernel_rfl), Lib.run_indexByteString]
  simp only [Result.andThen]
  rw [Oper.upon_value]
  go_wp2
  go_ret
  exact ⟨rfl, rfl⟩
theorem sindex_calls (s : ByteArray) (c : Int) (w : World) :
    Calls Tryd.prog 62 #[.string s, .int .u8 c] w fun e w' => e = .returned (.int .i64 (Lib.indexByte s.data.toList c.toNat.toUInt8)) ∧ w = w' := by
  go_enter Tryd.func62, Tryd.ntmps62
  go_wp2_with (go_at_call 69; refine (slite_calls _ _ _).mono ?_; rintro e w' ⟨rfl, rfl⟩)
  go_ret
  exact ⟨rfl, rfl⟩
theorem lacks_calls (s : ByteArray) (c : Int) (w : World) :
    Calls Tryd.prog 49 #[.string s, .int .u8 c] w fun e w' => e = .returned (.bool (lacB s c.toNat.toUInt8)) ∧ w = w' := by
  unfold lacB
  generalize hi : Lib.indexByte s.data.toList c.toNat.toUInt8 = i
  have HI := Lib.hid hi
  clear hi
  go_enter Tryd.func49, Tryd.ntmps49
  go_wp2_with (go_at_call 62; refine (sindex_calls _ _ _).mono ?_; rw [HI.out]; rintro e w' ⟨rfl, rfl⟩)
  go_ret
  exact ⟨rfl, rfl⟩
/-! ### fields -/
theorem eget_ok (v a n : Nat) (ai ni : Int) (w : World) (hai : ai = (a : Nat)) (hni : ni = (n : Nat)) (v1 : v < 18446744073709551616) (hn : 1 ≤ n) (ha : a + n ≤ 64) :
    Calls Tryd.prog 39 #[.int .u64 v, .int .i64 ai, .int .i64 ni] w fun e w' => e = .returned (.int .u64 (fld v a n : Nat)) ∧ w = w' := by
  subst hai hni
  have h := get_calls (v : Int) a n w (by omega) (by omega) (by omega)
  rw [getV_yes ⟨by omega, by omega, by omega⟩] at h
  simp only [Int.toNat_natCast] at h
  go_enter Tryd.func39, Tryd.ntmps39
  go_wp2_with (fail)
  refine h.mono ?_
  rintro e w' ⟨rfl, rfl⟩
  go_wp2_with (fail)
  go_ret
  exact ⟨rfl, rfl⟩
/-- A cell of a block of one's own turned by put. -/
theorem eput_ok (e : TypeId) (g k : Nat) (l : List Nat) (v a n x : Nat) (ai ni : Int) (w : World) (hai : ai = (a : Nat)) (hni : ni = (n : Nat)) (hB : Blk e w g l) (hk : k < l.length) (hv : l.getD k 0 = v) (v1 : v < 18446744073709551616) (hn : 1 ≤ n) (ha : a + n ≤ 64) (hx : x < 2 ^ n) :
    Calls Tryd.prog 44 #[.pointer (some ⟨g, k, none⟩), .int .i64 ai, .int .i64 ni, .int .u64 x] w fun e' w' => e' = .returned (.tuple #[]) ∧ Blk e w' g (l.set k (put v a n x)) ∧ Below g w w' := by
  subst hai hni
  have hp : isPut a n x := ⟨⟨by omega, by omega, by omega⟩, by simpa using hx⟩
  have hc := hB.cell k hk
  rw [hv] at hc
  have hf := hB.frozen k
  have key := put_calls (v : Int) a n x w (by omega) (by omega) (by omega) (by omega)
  rw [putV_yes hp, putE_yes hp] at key
  have hlt := hB.lt
  go_enter Tryd.func44, Tryd.ntmps44
  go_wp2_with (fail)
  refine key.mono ?_
  rintro e w' ⟨rfl, m, rfl⟩
  go_wp2_with (fail)
  exact bodyPost_end (results_none rfl _ _ _) rfl ⟨rfl, by simpa using (hB.drewN m).set k (put v a n x), (below_drewN (Below.refl g w) m).setCell (Nat.le_refl _) _⟩
/-! ### errors -/
/-- 'slot of a directory', 'block of a directory'. -/
def slotT : ByteArray := ⟨#[115, 108, 111, 116, 32, 111, 102, 32, 97, 32, 100, 105, 114, 101, 99, 116, 111, 114, 121]⟩
def blockT : ByteArray := ⟨#[98, 108, 111, 99, 107, 32, 111, 102, 32, 97, 32, 100, 105, 114, 101, 99, 116, 111, 114, 121]⟩
/-- An error of that kind. -/
abbrev misV (k n : Int) (s : ByteArray) : Value := .iface 95 (.agg #[.int .i64 k, .int .i64 n, .string s])
theorem noSlot_calls (n : Int) (w : World) : Calls Tryd.prog 36 #[.int .i64 n] w fun e w' => e = .returned (misV 0 n slotT) ∧ w = w' := by
  go_enter Tryd.func36, Tryd.ntmps36
  go_wp2
  go_ret
  exact ⟨rfl, rfl⟩
theorem noBlock_calls (k n : Int) (w : World) : Calls Tryd.prog 38 #[.int .i64 k, .int .i64 n] w fun e w' => e = .returned (misV k n blockT) ∧ w = w' := by
  go_enter Tryd.func38, Tryd.ntmps38
  go_wp2
  go_ret
  exact ⟨rfl, rfl⟩
/-! ### which slots may be -/
theorem full_parts (x : Slt) (I : Int) : fullB x I = (wi x.I 1 I && (wi x.K 1 3 && (wi (x.S.size : Nat) 1 16 && (lacB x.S 0 && lacB x.S 47)))) := by
  unfold fullB
  rw [plain_lac]
  have : decide (1 ≤ x.S.size ∧ x.S.size ≤ 16) = wi (x.S.size : Nat) 1 16 := by
    unfold wi; rw [decide_eq_decide]; omega
  rw [this]
  rfl
theorem ways5 (a b c d e : Bool) : a = false ∨ (a = true ∧ b = false) ∨ (a = true ∧ b = true ∧ c = false) ∨ (a = true ∧ b = true ∧ c = true ∧ d = false) ∨ (a = true ∧ b = true ∧ c = true ∧ d = true ∧ e = false) ∨ (a = true ∧ b = true ∧ c = true ∧ d = true ∧ e = true) := by
  cases a <;> cases b <;> cases c <;> cases d <;> cases e <;> simp
set_option maxRecDepth 100000 in
set_option maxHeartbeats 1000000 in
theorem full_calls (x : Slt) (P I B : Int) (w : World) : Calls Tryd.prog 32 #[x.v, gv P I B] w fun e w' => e = .returned (.bool (fullB x I)) ∧ Below w.heap.size w w' := by
  rw [full_parts]
  have hb : Below w.heap.size w ((w.alloc (.cells x.c 23)).alloc (.cells #[.int .i64 P, .int .i64 I, .int .i64 B] 28)) := ((Below.refl _ _).alloc (Nat.le_refl _) _).alloc (by simp) _
  have HB := Lib.hid hb
  clear hb
  rcases ways5 (wi x.I 1 I) (wi x.K 1 3) (wi (x.S.size : Nat) 1 16) (lacB x.S 0) (lacB x.S 47) with c1 | ⟨c1, c2⟩ | ⟨c1, c2, c3⟩ | ⟨c1, c2, c3, c4⟩ | ⟨c1, c2, c3, c4, c5⟩ | ⟨c1, c2, c3, c4, c5⟩
  all_goals
    go_enter Tryd.func32, Tryd.ntmps32
    go_wp2_with (first
      | (go_at_call 29; refine (wint_calls _ _ _ _).mono ?_; rintro e w' ⟨rfl, rfl⟩)
      | (go_at_call 48; refine (wint8_calls _ _ _ _).mono ?_; rintro e w' ⟨rfl, rfl⟩)
      | (go_at_call 49; refine (lacks_calls _ _ _).mono ?_; rintro e w' ⟨rfl, rfl⟩))
    go_ret
    exact ⟨by simp [*], HB.out⟩
end Go.Proofs.YtipghcpodhokbaaDoor
