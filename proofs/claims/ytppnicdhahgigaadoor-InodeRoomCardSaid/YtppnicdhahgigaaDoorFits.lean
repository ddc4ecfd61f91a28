/- Which words a record of a kind may have, as the document says it. -/
import Derived.Test.YtppnicdhahgigaaDoorIno1
import Derived.Great.Walk
namespace Go.Proofs.YtppnicdhahgigaaDoor
open Go.RowKit
def mostL (k : Int) : Nat := if k = 0 then 0 else if k = 2 then 1 else 8
def fit0 (k : Int) (v : Nat) : Bool := decide (k ≤ 3) && (decide (v / 256 % 256 ≤ mostL k) && decide (v / 65536 % 65536 = 0))
def fitN (i : Nat) (k : Int) (v : Nat) (I B : Int) : Bool :=
  if k = 0 then decide (v = 0)
  else if i = 1 then (if k = 1 then wi v 0 8192 else if k = 2 then wi v 0 4096 else wi v 1 64)
  else if i = 2 then wi v 1 B
  else if i = 3 then (if k = 2 then decide ((v % 256 : Nat) ≤ B) && (decide ((v / 256 % 256 : Nat) ≤ B) && (decide ((v / 65536 % 256 : Nat) ≤ B) && (decide ((v / 16777216 % 256 : Nat) ≤ B) && decide (v < 4294967296)))) else if k = 3 then wi v 1 B else wi v 0 B)
  else if i = 4 then (if k = 2 then wi v 1 I else decide (v = 0))
  else wi v 0 1099511627776
/-- May word i of a record of that kind be v? -/
def fitV (i : Nat) (k : Int) (v : Nat) (I B : Int) : Bool := if i = 0 then fit0 k v else if 4611686018427387904 < v then false else fitN i k v I B
theorem eq0 (v : Nat) : ((v : Int) == 0) = decide (v = 0) := by
  by_cases h : v = 0
  · subst h; rfl
  · have h2 : ((v : Int) == 0) = false := by rw [beq_eq_false_iff_ne]; omega
    rw [h2]; simp [h]
theorem ltn (v : Nat) : decide ((v : Int) < 4294967296) = decide (v < 4294967296) := by
  by_cases h : v < 4294967296
  · rw [decide_eq_true h, decide_eq_true (by omega)]
  · rw [decide_eq_false h, decide_eq_false (by omega)]
theorem rwi_calls (n lo hi : Int) (w : World) : Calls Tryd.prog 46 #[.int .i64 n, .int .i64 lo, .int .i64 hi] w fun e w' => e = .returned (.bool (wi n lo hi)) ∧ w = w' := by
  by_cases h1 : lo ≤ n
  · by_cases h2 : n ≤ hi
    · rw [wi_yes h1 h2]
      go_enter Tryd.func46, Tryd.ntmps46
      go_wp2
      go_ret
      exact ⟨rfl, rfl⟩
    · rw [wi_no (by omega)]
      have h3 : decide (n ≤ hi) = false := by rw [decide_eq_false_iff_not]; omega
      clear h2
      go_enter Tryd.func46, Tryd.ntmps46
      go_wp2
      go_ret
      exact ⟨by simp, rfl⟩
  · rw [wi_no (by omega)]
    have h3 : decide (lo ≤ n) = false := by rw [decide_eq_false_iff_not]; omega
    clear h1
    go_enter Tryd.func46, Tryd.ntmps46
    go_wp2
    go_ret
    exact ⟨by simp, rfl⟩
set_option maxRecDepth 100000 in
theorem fits_big1 (b off : Nat) (sp : Option Nat) (c : Nat) (k : Int) (v : Nat) (P I B : Int) (w : World) (hb : b < w.heap.size) (hc : w.cell? ⟨b, off + 1, none⟩ = some (.int .u64 (v : Nat))) (_hv : v < 18446744073709551616) (hbig : 4611686018427387904 < v) :
    Calls Tryd.prog 33 #[.slice (some ⟨b, off, sp⟩) 8 c, .int .i64 1, .int .u8 k, gv P I B] w fun e w' => e = .returned (.bool false) ∧ Below w.heap.size w w' := by
  clear _hv
  have e2 : (4611686018427387904 : Int) < v := by omega
  clear hbig
  go_enter Tryd.func33, Tryd.ntmps33
  go_wp2_with (go_at_call 46; refine (rwi_calls _ _ _ _).mono ?_; rintro e w' ⟨rfl, rfl⟩)
  go_ret
  exact ⟨rfl, (Below.refl _ _).alloc (Nat.le_refl _) _⟩
set_option maxRecDepth 100000 in
theorem fits_big2 (b off : Nat) (sp : Option Nat) (c : Nat) (k : Int) (v : Nat) (P I B : Int) (w : World) (hb : b < w.heap.size) (hc : w.cell? ⟨b, off + 2, none⟩ = some (.int .u64 (v : Nat))) (_hv : v < 18446744073709551616) (hbig : 4611686018427387904 < v) :
    Calls Tryd.prog 33 #[.slice (some ⟨b, off, sp⟩) 8 c, .int .i64 2, .int .u8 k, gv P I B] w fun e w' => e = .returned (.bool false) ∧ Below w.heap.size w w' := by
  clear _hv
  have e2 : (4611686018427387904 : Int) < v := by omega
  clear hbig
  go_enter Tryd.func33, Tryd.ntmps33
  go_wp2_with (go_at_call 46; refine (rwi_calls _ _ _ _).mono ?_; rintro e w' ⟨rfl, rfl⟩)
  go_ret
  exact ⟨rfl, (Below.refl _ _).alloc (Nat.le_refl _) _⟩
set_option maxRecDepth 100000 in
theorem fits_big3 (b off : Nat) (sp : Option Nat) (c : Nat) (k : Int) (v : Nat) (P I B : Int) (w : World) (hb : b < w.heap.size) (hc : w.cell? ⟨b, off + 3, none⟩ = some (.int .u64 (v : Nat))) (_hv : v < 18446744073709551616) (hbig : 4611686018427387904 < v) :
    Calls Tryd.prog 33 #[.slice (some ⟨b, off, sp⟩) 8 c, .int .i64 3, .int .u8 k, gv P I B] w fun e w' => e = .returned (.bool false) ∧ Below w.heap.size w w' := by
  clear _hv
  have e2 : (4611686018427387904 : Int) < v := by omega
  clear hbig
  go_enter Tryd.func33, Tryd.ntmps33
  go_wp2_with (go_at_call 46; refine (rwi_calls _ _ _ _).mono ?_; rintro e w' ⟨rfl, rfl⟩)
  go_ret
  exact ⟨rfl, (Below.refl _ _).alloc (Nat.le_refl _) _⟩
set_option maxRecDepth 100000 in
theorem fits_big4 (b off : Nat) (sp : Option Nat) (c : Nat) (k : Int) (v : Nat) (P I B : Int) (w : World) (hb : b < w.heap.size) (hc : w.cell? ⟨b, off + 4, none⟩ = some (.int .u64 (v : Nat))) (_hv : v < 18446744073709551616) (hbig : 4611686018427387904 < v) :
    Calls Tryd.prog 33 #[.slice (some ⟨b, off, sp⟩) 8 c, .int .i64 4, .int .u8 k, gv P I B] w fun e w' => e = .returned (.bool false) ∧ Below w.heap.size w w' := by
  clear _hv
  have e2 : (4611686018427387904 : Int) < v := by omega
  clear hbig
  go_enter Tryd.func33, Tryd.ntmps33
  go_wp2_with (go_at_call 46; refine (rwi_calls _ _ _ _).mono ?_; rintro e w' ⟨rfl, rfl⟩)
  go_ret
  exact ⟨rfl, (Below.refl _ _).alloc (Nat.le_refl _) _⟩
set_option maxRecDepth 100000 in
theorem fits_big5 (b off : Nat) (sp : Option Nat) (c : Nat) (k : Int) (v : Nat) (P I B : Int) (w : World) (hb : b < w.heap.size) (hc : w.cell? ⟨b, off + 5, none⟩ = some (.int .u64 (v : Nat))) (_hv : v < 18446744073709551616) (hbig : 4611686018427387904 < v) :
    Calls Tryd.prog 33 #[.slice (some ⟨b, off, sp⟩) 8 c, .int .i64 5, .int .u8 k, gv P I B] w fun e w' => e = .returned (.bool false) ∧ Below w.heap.size w w' := by
  clear _hv
  have e2 : (4611686018427387904 : Int) < v := by omega
  clear hbig
  go_enter Tryd.func33, Tryd.ntmps33
  go_wp2_with (go_at_call 46; refine (rwi_calls _ _ _ _).mono ?_; rintro e w' ⟨rfl, rfl⟩)
  go_ret
  exact ⟨rfl, (Below.refl _ _).alloc (Nat.le_refl _) _⟩
set_option maxRecDepth 100000 in
theorem fits_big6 (b off : Nat) (sp : Option Nat) (c : Nat) (k : Int) (v : Nat) (P I B : Int) (w : World) (hb : b < w.heap.size) (hc : w.cell? ⟨b, off + 6, none⟩ = some (.int .u64 (v : Nat))) (_hv : v < 18446744073709551616) (hbig : 4611686018427387904 < v) :
    Calls Tryd.prog 33 #[.slice (some ⟨b, off, sp⟩) 8 c, .int .i64 6, .int .u8 k, gv P I B] w fun e w' => e = .returned (.bool false) ∧ Below w.heap.size w w' := by
  clear _hv
  have e2 : (4611686018427387904 : Int) < v := by omega
  clear hbig
  go_enter Tryd.func33, Tryd.ntmps33
  go_wp2_with (go_at_call 46; refine (rwi_calls _ _ _ _).mono ?_; rintro e w' ⟨rfl, rfl⟩)
  go_ret
  exact ⟨rfl, (Below.refl _ _).alloc (Nat.le_refl _) _⟩
set_option maxRecDepth 100000 in
theorem fits_free1 (b off : Nat) (sp : Option Nat) (c : Nat) (v : Nat) (P I B : Int) (w : World) (hb : b < w.heap.size) (hc : w.cell? ⟨b, off + 1, none⟩ = some (.int .u64 (v : Nat))) (hv : v < 18446744073709551616) (hle : v ≤ 4611686018427387904) :
    Calls Tryd.prog 33 #[.slice (some ⟨b, off, sp⟩) 8 c, .int .i64 1, .int .u8 0, gv P I B] w fun e w' => e = .returned (.bool (decide (v = 0))) ∧ Below w.heap.size w w' := by
  have e1 : IntKind.i64.wrap (v : Int) = v := by rw [IntKind.wrap_i64]; omega
  have e2 : decide ((4611686018427387904 : Int) < v) = false := by rw [decide_eq_false_iff_not]; omega
  have e3 : ¬ (4611686018427387904 : Int) < v := by omega
  clear hv hle
  go_enter Tryd.func33, Tryd.ntmps33
  go_wp2_with (go_at_call 46; refine (rwi_calls _ _ _ _).mono ?_; rintro e w' ⟨rfl, rfl⟩)
  go_ret
  exact ⟨by congr 1; exact congrArg _ (eq0 v), (Below.refl _ _).alloc (Nat.le_refl _) _⟩
set_option maxRecDepth 100000 in
theorem fits_free2 (b off : Nat) (sp : Option Nat) (c : Nat) (v : Nat) (P I B : Int) (w : World) (hb : b < w.heap.size) (hc : w.cell? ⟨b, off + 2, none⟩ = some (.int .u64 (v : Nat))) (hv : v < 18446744073709551616) (hle : v ≤ 4611686018427387904) :
    Calls Tryd.prog 33 #[.slice (some ⟨b, off, sp⟩) 8 c, .int .i64 2, .int .u8 0, gv P I B] w fun e w' => e = .returned (.bool (decide (v = 0))) ∧ Below w.heap.size w w' := by
  have e1 : IntKind.i64.wrap (v : Int) = v := by rw [IntKind.wrap_i64]; omega
  have e2 : decide ((4611686018427387904 : Int) < v) = false := by rw [decide_eq_false_iff_not]; omega
  have e3 : ¬ (4611686018427387904 : Int) < v := by omega
  clear hv hle
  go_enter Tryd.func33, Tryd.ntmps33
  go_wp2_with (go_at_call 46; refine (rwi_calls _ _ _ _).mono ?_; rintro e w' ⟨rfl, rfl⟩)
  go_ret
  exact ⟨by congr 1; exact congrArg _ (eq0 v), (Below.refl _ _).alloc (Nat.le_refl _) _⟩
set_option maxRecDepth 100000 in
theorem fits_free3 (b off : Nat) (sp : Option Nat) (c : Nat) (v : Nat) (P I B : Int) (w : World) (hb : b < w.heap.size) (hc : w.cell? ⟨b, off + 3, none⟩ = some (.int .u64 (v : Nat))) (hv : v < 18446744073709551616) (hle : v ≤ 4611686018427387904) :
    Calls Tryd.prog 33 #[.slice (some ⟨b, off, sp⟩) 8 c, .int .i64 3, .int .u8 0, gv P I B] w fun e w' => e = .returned (.bool (decide (v = 0))) ∧ Below w.heap.size w w' := by
  have e1 : IntKind.i64.wrap (v : Int) = v := by rw [IntKind.wrap_i64]; omega
  have e2 : decide ((4611686018427387904 : Int) < v) = false := by rw [decide_eq_false_iff_not]; omega
  have e3 : ¬ (4611686018427387904 : Int) < v := by omega
  clear hv hle
  go_enter Tryd.func33, Tryd.ntmps33
  go_wp2_with (go_at_call 46; refine (rwi_calls _ _ _ _).mono ?_; rintro e w' ⟨rfl, rfl⟩)
  go_ret
  exact ⟨by congr 1; exact congrArg _ (eq0 v), (Below.refl _ _).alloc (Nat.le_refl _) _⟩
set_option maxRecDepth 100000 in
theorem fits_free4 (b off : Nat) (sp : Option Nat) (c : Nat) (v : Nat) (P I B : Int) (w : World) (hb : b < w.heap.size) (hc : w.cell? ⟨b, off + 4, none⟩ = some (.int .u64 (v : Nat))) (hv : v < 18446744073709551616) (hle : v ≤ 4611686018427387904) :
    Calls Tryd.prog 33 #[.slice (some ⟨b, off, sp⟩) 8 c, .int .i64 4, .int .u8 0, gv P I B] w fun e w' => e = .returned (.bool (decide (v = 0))) ∧ Below w.heap.size w w' := by
  have e1 : IntKind.i64.wrap (v : Int) = v := by rw [IntKind.wrap_i64]; omega
  have e2 : decide ((4611686018427387904 : Int) < v) = false := by rw [decide_eq_false_iff_not]; omega
  have e3 : ¬ (4611686018427387904 : Int) < v := by omega
  clear hv hle
  go_enter Tryd.func33, Tryd.ntmps33
  go_wp2_with (go_at_call 46; refine (rwi_calls _ _ _ _).mono ?_; rintro e w' ⟨rfl, rfl⟩)
  go_ret
  exact ⟨by congr 1; exact congrArg _ (eq0 v), (Below.refl _ _).alloc (Nat.le_refl _) _⟩
set_option maxRecDepth 100000 in
theorem fits_free5 (b off : Nat) (sp : Option Nat) (c : Nat) (v : Nat) (P I B : Int) (w : World) (hb : b < w.heap.size) (hc : w.cell? ⟨b, off + 5, none⟩ = some (.int .u64 (v : Nat))) (hv : v < 18446744073709551616) (hle : v ≤ 4611686018427387904) :
    Calls Tryd.prog 33 #[.slice (some ⟨b, off, sp⟩) 8 c, .int .i64 5, .int .u8 0, gv P I B] w fun e w' => e = .returned (.bool (decide (v = 0))) ∧ Below w.heap.size w w' := by
  have e1 : IntKind.i64.wrap (v : Int) = v := by rw [IntKind.wrap_i64]; omega
  have e2 : decide ((4611686018427387904 : Int) < v) = false := by rw [decide_eq_false_iff_not]; omega
  have e3 : ¬ (4611686018427387904 : Int) < v := by omega
  clear hv hle
  go_enter Tryd.func33, Tryd.ntmps33
  go_wp2_with (go_at_call 46; refine (rwi_calls _ _ _ _).mono ?_; rintro e w' ⟨rfl, rfl⟩)
  go_ret
  exact ⟨by congr 1; exact congrArg _ (eq0 v), (Below.refl _ _).alloc (Nat.le_refl _) _⟩
set_option maxRecDepth 100000 in
theorem fits_free6 (b off : Nat) (sp : Option Nat) (c : Nat) (v : Nat) (P I B : Int) (w : World) (hb : b < w.heap.size) (hc : w.cell? ⟨b, off + 6, none⟩ = some (.int .u64 (v : Nat))) (hv : v < 18446744073709551616) (hle : v ≤ 4611686018427387904) :
    Calls Tryd.prog 33 #[.slice (some ⟨b, off, sp⟩) 8 c, .int .i64 6, .int .u8 0, gv P I B] w fun e w' => e = .returned (.bool (decide (v = 0))) ∧ Below w.heap.size w w' := by
  have e1 : IntKind.i64.wrap (v : Int) = v := by rw [IntKind.wrap_i64]; omega
  have e2 : decide ((4611686018427387904 : Int) < v) = false := by rw [decide_eq_false_iff_not]; omega
  have e3 : ¬ (4611686018427387904 : Int) < v := by omega
  clear hv hle
  go_enter Tryd.func33, Tryd.ntmps33
  go_wp2_with (go_at_call 46; refine (rwi_calls _ _ _ _).mono ?_; rintro e w' ⟨rfl, rfl⟩)
  go_ret
  exact ⟨by congr 1; exact congrArg _ (eq0 v), (Below.refl _ _).alloc (Nat.le_refl _) _⟩
set_option maxRecDepth 100000 in
theorem fits_a1_1 (b off : Nat) (sp : Option Nat) (c : Nat) (v : Nat) (P I B : Int) (w : World) (hb : b < w.heap.size) (hc : w.cell? ⟨b, off + 1, none⟩ = some (.int .u64 (v : Nat))) (hv : v < 18446744073709551616) (hle : v ≤ 4611686018427387904) :
    Calls Tryd.prog 33 #[.slice (some ⟨b, off, sp⟩) 8 c, .int .i64 1, .int .u8 1, gv P I B] w fun e w' => e = .returned (.bool (wi v 0 8192)) ∧ Below w.heap.size w w' := by
  have e1 : IntKind.i64.wrap (v : Int) = v := by rw [IntKind.wrap_i64]; omega
  have e2 : decide ((4611686018427387904 : Int) < v) = false := by rw [decide_eq_false_iff_not]; omega
  have e3 : ¬ (4611686018427387904 : Int) < v := by omega
  clear hv hle
  go_enter Tryd.func33, Tryd.ntmps33
  go_wp2_with (go_at_call 46; refine (rwi_calls _ _ _ _).mono ?_; rintro e w' ⟨rfl, rfl⟩)
  go_ret
  exact ⟨rfl, (Below.refl _ _).alloc (Nat.le_refl _) _⟩
set_option maxRecDepth 100000 in
theorem fits_a1_2 (b off : Nat) (sp : Option Nat) (c : Nat) (v : Nat) (P I B : Int) (w : World) (hb : b < w.heap.size) (hc : w.cell? ⟨b, off + 1, none⟩ = some (.int .u64 (v : Nat))) (hv : v < 18446744073709551616) (hle : v ≤ 4611686018427387904) :
    Calls Tryd.prog 33 #[.slice (some ⟨b, off, sp⟩) 8 c, .int .i64 1, .int .u8 2, gv P I B] w fun e w' => e = .returned (.bool (wi v 0 4096)) ∧ Below w.heap.size w w' := by
  have e1 : IntKind.i64.wrap (v : Int) = v := by rw [IntKind.wrap_i64]; omega
  have e2 : decide ((4611686018427387904 : Int) < v) = false := by rw [decide_eq_false_iff_not]; omega
  have e3 : ¬ (4611686018427387904 : Int) < v := by omega
  clear hv hle
  go_enter Tryd.func33, Tryd.ntmps33
  go_wp2_with (go_at_call 46; refine (rwi_calls _ _ _ _).mono ?_; rintro e w' ⟨rfl, rfl⟩)
  go_ret
  exact ⟨rfl, (Below.refl _ _).alloc (Nat.le_refl _) _⟩
set_option maxRecDepth 100000 in
theorem fits_a1_x (b off : Nat) (sp : Option Nat) (c : Nat) (k : Int) (v : Nat) (P I B : Int) (w : World) (hb : b < w.heap.size) (hc : w.cell? ⟨b, off + 1, none⟩ = some (.int .u64 (v : Nat))) (hv : v < 18446744073709551616) (hk0 : ¬ k = 0) (hk1 : ¬ k = 1) (hk2 : ¬ k = 2) (hle : v ≤ 4611686018427387904) :
    Calls Tryd.prog 33 #[.slice (some ⟨b, off, sp⟩) 8 c, .int .i64 1, .int .u8 k, gv P I B] w fun e w' => e = .returned (.bool (wi v 1 64)) ∧ Below w.heap.size w w' := by
  have n0 : (k == 0) = false := by simpa using hk0
  have n1 : (k == 1) = false := by simpa using hk1
  have n2 : (k == 2) = false := by simpa using hk2
  clear hk0 hk1 hk2
  have e1 : IntKind.i64.wrap (v : Int) = v := by rw [IntKind.wrap_i64]; omega
  have e2 : decide ((4611686018427387904 : Int) < v) = false := by rw [decide_eq_false_iff_not]; omega
  have e3 : ¬ (4611686018427387904 : Int) < v := by omega
  clear hv hle
  go_enter Tryd.func33, Tryd.ntmps33
  go_wp2_with (go_at_call 46; refine (rwi_calls _ _ _ _).mono ?_; rintro e w' ⟨rfl, rfl⟩)
  go_ret
  exact ⟨rfl, (Below.refl _ _).alloc (Nat.le_refl _) _⟩
set_option maxRecDepth 100000 in
theorem fits_a2_x (b off : Nat) (sp : Option Nat) (c : Nat) (k : Int) (v : Nat) (P I B : Int) (w : World) (hb : b < w.heap.size) (hc : w.cell? ⟨b, off + 2, none⟩ = some (.int .u64 (v : Nat))) (hv : v < 18446744073709551616) (hk0 : ¬ k = 0) (hle : v ≤ 4611686018427387904) :
    Calls Tryd.prog 33 #[.slice (some ⟨b, off, sp⟩) 8 c, .int .i64 2, .int .u8 k, gv P I B] w fun e w' => e = .returned (.bool (wi v 1 B)) ∧ Below w.heap.size w w' := by
  have n0 : (k == 0) = false := by simpa using hk0
  clear hk0
  have e1 : IntKind.i64.wrap (v : Int) = v := by rw [IntKind.wrap_i64]; omega
  have e2 : decide ((4611686018427387904 : Int) < v) = false := by rw [decide_eq_false_iff_not]; omega
  have e3 : ¬ (4611686018427387904 : Int) < v := by omega
  clear hv hle
  go_enter Tryd.func33, Tryd.ntmps33
  go_wp2_with (go_at_call 46; refine (rwi_calls _ _ _ _).mono ?_; rintro e w' ⟨rfl, rfl⟩)
  go_ret
  exact ⟨rfl, (Below.refl _ _).alloc (Nat.le_refl _) _⟩
set_option maxRecDepth 100000 in
theorem fits_a3_3 (b off : Nat) (sp : Option Nat) (c : Nat) (v : Nat) (P I B : Int) (w : World) (hb : b < w.heap.size) (hc : w.cell? ⟨b, off + 3, none⟩ = some (.int .u64 (v : Nat))) (hv : v < 18446744073709551616) (hle : v ≤ 4611686018427387904) :
    Calls Tryd.prog 33 #[.slice (some ⟨b, off, sp⟩) 8 c, .int .i64 3, .int .u8 3, gv P I B] w fun e w' => e = .returned (.bool (wi v 1 B)) ∧ Below w.heap.size w w' := by
  have e1 : IntKind.i64.wrap (v : Int) = v := by rw [IntKind.wrap_i64]; omega
  have e2 : decide ((4611686018427387904 : Int) < v) = false := by rw [decide_eq_false_iff_not]; omega
  have e3 : ¬ (4611686018427387904 : Int) < v := by omega
  clear hv hle
  go_enter Tryd.func33, Tryd.ntmps33
  go_wp2_with (go_at_call 46; refine (rwi_calls _ _ _ _).mono ?_; rintro e w' ⟨rfl, rfl⟩)
  go_ret
  exact ⟨rfl, (Below.refl _ _).alloc (Nat.le_refl _) _⟩
set_option maxRecDepth 100000 in
theorem fits_a3_x (b off : Nat) (sp : Option Nat) (c : Nat) (k : Int) (v : Nat) (P I B : Int) (w : World) (hb : b < w.heap.size) (hc : w.cell? ⟨b, off + 3, none⟩ = some (.int .u64 (v : Nat))) (hv : v < 18446744073709551616) (hk0 : ¬ k = 0) (hk2 : ¬ k = 2) (hk3 : ¬ k = 3) (hle : v ≤ 4611686018427387904) :
    Calls Tryd.prog 33 #[.slice (some ⟨b, off, sp⟩) 8 c, .int .i64 3, .int .u8 k, gv P I B] w fun e w' => e = .returned (.bool (wi v 0 B)) ∧ Below w.heap.size w w' := by
  have n0 : (k == 0) = false := by simpa using hk0
  have n2 : (k == 2) = false := by simpa using hk2
  have n3 : (k == 3) = false := by simpa using hk3
  clear hk0 hk2 hk3
  have e1 : IntKind.i64.wrap (v : Int) = v := by rw [IntKind.wrap_i64]; omega
  have e2 : decide ((4611686018427387904 : Int) < v) = false := by rw [decide_eq_false_iff_not]; omega
  have e3 : ¬ (4611686018427387904 : Int) < v := by omega
  clear hv hle
  go_enter Tryd.func33, Tryd.ntmps33
  go_wp2_with (go_at_call 46; refine (rwi_calls _ _ _ _).mono ?_; rintro e w' ⟨rfl, rfl⟩)
  go_ret
  exact ⟨rfl, (Below.refl _ _).alloc (Nat.le_refl _) _⟩
set_option maxRecDepth 100000 in
theorem fits_a4_2 (b off : Nat) (sp : Option Nat) (c : Nat) (v : Nat) (P I B : Int) (w : World) (hb : b < w.heap.size) (hc : w.cell? ⟨b, off + 4, none⟩ = some (.int .u64 (v : Nat))) (hv : v < 18446744073709551616) (hle : v ≤ 4611686018427387904) :
    Calls Tryd.prog 33 #[.slice (some ⟨b, off, sp⟩) 8 c, .int .i64 4, .int .u8 2, gv P I B] w fun e w' => e = .returned (.bool (wi v 1 I)) ∧ Below w.heap.size w w' := by
  have e1 : IntKind.i64.wrap (v : Int) = v := by rw [IntKind.wrap_i64]; omega
  have e2 : decide ((4611686018427387904 : Int) < v) = false := by rw [decide_eq_false_iff_not]; omega
  have e3 : ¬ (4611686018427387904 : Int) < v := by omega
  clear hv hle
  go_enter Tryd.func33, Tryd.ntmps33
  go_wp2_with (go_at_call 46; refine (rwi_calls _ _ _ _).mono ?_; rintro e w' ⟨rfl, rfl⟩)
  go_ret
  exact ⟨rfl, (Below.refl _ _).alloc (Nat.le_refl _) _⟩
set_option maxRecDepth 100000 in
theorem fits_a4_x (b off : Nat) (sp : Option Nat) (c : Nat) (k : Int) (v : Nat) (P I B : Int) (w : World) (hb : b < w.heap.size) (hc : w.cell? ⟨b, off + 4, none⟩ = some (.int .u64 (v : Nat))) (hv : v < 18446744073709551616) (hk0 : ¬ k = 0) (hk2 : ¬ k = 2) (hle : v ≤ 4611686018427387904) :
    Calls Tryd.prog 33 #[.slice (some ⟨b, off, sp⟩) 8 c, .int .i64 4, .int .u8 k, gv P I B] w fun e w' => e = .returned (.bool (decide (v = 0))) ∧ Below w.heap.size w w' := by
  have n0 : (k == 0) = false := by simpa using hk0
  have n2 : (k == 2) = false := by simpa using hk2
  clear hk0 hk2
  have e1 : IntKind.i64.wrap (v : Int) = v := by rw [IntKind.wrap_i64]; omega
  have e2 : decide ((4611686018427387904 : Int) < v) = false := by rw [decide_eq_false_iff_not]; omega
  have e3 : ¬ (4611686018427387904 : Int) < v := by omega
  clear hv hle
  go_enter Tryd.func33, Tryd.ntmps33
  go_wp2_with (go_at_call 46; refine (rwi_calls _ _ _ _).mono ?_; rintro e w' ⟨rfl, rfl⟩)
  go_ret
  exact ⟨by congr 1; exact congrArg _ (eq0 v), (Below.refl _ _).alloc (Nat.le_refl _) _⟩
set_option maxRecDepth 100000 in
theorem fits_a5_x (b off : Nat) (sp : Option Nat) (c : Nat) (k : Int) (v : Nat) (P I B : Int) (w : World) (hb : b < w.heap.size) (hc : w.cell? ⟨b, off + 5, none⟩ = some (.int .u64 (v : Nat))) (hv : v < 18446744073709551616) (hk0 : ¬ k = 0) (hle : v ≤ 4611686018427387904) :
    Calls Tryd.prog 33 #[.slice (some ⟨b, off, sp⟩) 8 c, .int .i64 5, .int .u8 k, gv P I B] w fun e w' => e = .returned (.bool (wi v 0 1099511627776)) ∧ Below w.heap.size w w' := by
  have n0 : (k == 0) = false := by simpa using hk0
  clear hk0
  have e1 : IntKind.i64.wrap (v : Int) = v := by rw [IntKind.wrap_i64]; omega
  have e2 : decide ((4611686018427387904 : Int) < v) = false := by rw [decide_eq_false_iff_not]; omega
  have e3 : ¬ (4611686018427387904 : Int) < v := by omega
  clear hv hle
  go_enter Tryd.func33, Tryd.ntmps33
  go_wp2_with (go_at_call 46; refine (rwi_calls _ _ _ _).mono ?_; rintro e w' ⟨rfl, rfl⟩)
  go_ret
  exact ⟨rfl, (Below.refl _ _).alloc (Nat.le_refl _) _⟩
set_option maxRecDepth 100000 in
theorem fits_a6_x (b off : Nat) (sp : Option Nat) (c : Nat) (k : Int) (v : Nat) (P I B : Int) (w : World) (hb : b < w.heap.size) (hc : w.cell? ⟨b, off + 6, none⟩ = some (.int .u64 (v : Nat))) (hv : v < 18446744073709551616) (hk0 : ¬ k = 0) (hle : v ≤ 4611686018427387904) :
    Calls Tryd.prog 33 #[.slice (some ⟨b, off, sp⟩) 8 c, .int .i64 6, .int .u8 k, gv P I B] w fun e w' => e = .returned (.bool (wi v 0 1099511627776)) ∧ Below w.heap.size w w' := by
  have n0 : (k == 0) = false := by simpa using hk0
  clear hk0
  have e1 : IntKind.i64.wrap (v : Int) = v := by rw [IntKind.wrap_i64]; omega
  have e2 : decide ((4611686018427387904 : Int) < v) = false := by rw [decide_eq_false_iff_not]; omega
  have e3 : ¬ (4611686018427387904 : Int) < v := by omega
  clear hv hle
  go_enter Tryd.func33, Tryd.ntmps33
  go_wp2_with (go_at_call 46; refine (rwi_calls _ _ _ _).mono ?_; rintro e w' ⟨rfl, rfl⟩)
  go_ret
  exact ⟨rfl, (Below.refl _ _).alloc (Nat.le_refl _) _⟩
set_option maxRecDepth 100000 in
theorem fits_z0f (b off : Nat) (sp : Option Nat) (c : Nat) (v : Nat) (P I B : Int) (w : World) (hb : b < w.heap.size) (hc : w.cell? ⟨b, off, sp⟩ = some (.int .u64 (v : Nat))) (_hv : v < 18446744073709551616) (h1 : ¬ v / 256 % 256 ≤ 0) :
    Calls Tryd.prog 33 #[.slice (some ⟨b, off, sp⟩) 8 c, .int .i64 0, .int .u8 0, gv P I B] w fun e w' => e = .returned (.bool false) ∧ Below w.heap.size w w' := by
  clear _hv
  have g1 : decide ((v : Int) / 256 % 256 ≤ 0) = false := by rw [decide_eq_false_iff_not]; omega
  clear h1
  go_enter Tryd.func33, Tryd.ntmps33
  go_wp2_with (go_at_call 46; refine (rwi_calls _ _ _ _).mono ?_; rintro e w' ⟨rfl, rfl⟩)
  go_ret
  exact ⟨by simp, (Below.refl _ _).alloc (Nat.le_refl _) _⟩
set_option maxRecDepth 100000 in
theorem fits_z0tf (b off : Nat) (sp : Option Nat) (c : Nat) (v : Nat) (P I B : Int) (w : World) (hb : b < w.heap.size) (hc : w.cell? ⟨b, off, sp⟩ = some (.int .u64 (v : Nat))) (_hv : v < 18446744073709551616) (h1 : v / 256 % 256 ≤ 0) (h2 : ¬ v / 65536 % 65536 = 0) :
    Calls Tryd.prog 33 #[.slice (some ⟨b, off, sp⟩) 8 c, .int .i64 0, .int .u8 0, gv P I B] w fun e w' => e = .returned (.bool false) ∧ Below w.heap.size w w' := by
  clear _hv
  have g1 : (v : Int) / 256 % 256 ≤ 0 := by omega
  have g2 : ((v : Int) / 65536 % 65536 == 0) = false := by rw [beq_eq_false_iff_ne]; omega
  clear h1 h2
  go_enter Tryd.func33, Tryd.ntmps33
  go_wp2_with (go_at_call 46; refine (rwi_calls _ _ _ _).mono ?_; rintro e w' ⟨rfl, rfl⟩)
  go_ret
  exact ⟨by simp, (Below.refl _ _).alloc (Nat.le_refl _) _⟩
set_option maxRecDepth 100000 in
theorem fits_z0tt (b off : Nat) (sp : Option Nat) (c : Nat) (v : Nat) (P I B : Int) (w : World) (hb : b < w.heap.size) (hc : w.cell? ⟨b, off, sp⟩ = some (.int .u64 (v : Nat))) (_hv : v < 18446744073709551616) (h1 : v / 256 % 256 ≤ 0) (h2 : v / 65536 % 65536 = 0) :
    Calls Tryd.prog 33 #[.slice (some ⟨b, off, sp⟩) 8 c, .int .i64 0, .int .u8 0, gv P I B] w fun e w' => e = .returned (.bool true) ∧ Below w.heap.size w w' := by
  clear _hv
  have g1 : (v : Int) / 256 % 256 ≤ 0 := by omega
  have g2 : ((v : Int) / 65536 % 65536 == 0) = true := by rw [beq_iff_eq]; omega
  clear h1 h2
  go_enter Tryd.func33, Tryd.ntmps33
  go_wp2_with (go_at_call 46; refine (rwi_calls _ _ _ _).mono ?_; rintro e w' ⟨rfl, rfl⟩)
  go_ret
  exact ⟨by simp, (Below.refl _ _).alloc (Nat.le_refl _) _⟩
set_option maxRecDepth 100000 in
theorem fits_z2f (b off : Nat) (sp : Option Nat) (c : Nat) (v : Nat) (P I B : Int) (w : World) (hb : b < w.heap.size) (hc : w.cell? ⟨b, off, sp⟩ = some (.int .u64 (v : Nat))) (_hv : v < 18446744073709551616) (h1 : ¬ v / 256 % 256 ≤ 1) :
    Calls Tryd.prog 33 #[.slice (some ⟨b, off, sp⟩) 8 c, .int .i64 0, .int .u8 2, gv P I B] w fun e w' => e = .returned (.bool false) ∧ Below w.heap.size w w' := by
  clear _hv
  have g1 : decide ((v : Int) / 256 % 256 ≤ 1) = false := by rw [decide_eq_false_iff_not]; omega
  clear h1
  go_enter Tryd.func33, Tryd.ntmps33
  go_wp2_with (go_at_call 46; refine (rwi_calls _ _ _ _).mono ?_; rintro e w' ⟨rfl, rfl⟩)
  go_ret
  exact ⟨by simp, (Below.refl _ _).alloc (Nat.le_refl _) _⟩
set_option maxRecDepth 100000 in
theorem fits_z2tf (b off : Nat) (sp : Option Nat) (c : Nat) (v : Nat) (P I B : Int) (w : World) (hb : b < w.heap.size) (hc : w.cell? ⟨b, off, sp⟩ = some (.int .u64 (v : Nat))) (_hv : v < 18446744073709551616) (h1 : v / 256 % 256 ≤ 1) (h2 : ¬ v / 65536 % 65536 = 0) :
    Calls Tryd.prog 33 #[.slice (some ⟨b, off, sp⟩) 8 c, .int .i64 0, .int .u8 2, gv P I B] w fun e w' => e = .returned (.bool false) ∧ Below w.heap.size w w' := by
  clear _hv
  have g1 : (v : Int) / 256 % 256 ≤ 1 := by omega
  have g2 : ((v : Int) / 65536 % 65536 == 0) = false := by rw [beq_eq_false_iff_ne]; omega
  clear h1 h2
  go_enter Tryd.func33, Tryd.ntmps33
  go_wp2_with (go_at_call 46; refine (rwi_calls _ _ _ _).mono ?_; rintro e w' ⟨rfl, rfl⟩)
  go_ret
  exact ⟨by simp, (Below.refl _ _).alloc (Nat.le_refl _) _⟩
set_option maxRecDepth 100000 in
theorem fits_z2tt (b off : Nat) (sp : Option Nat) (c : Nat) (v : Nat) (P I B : Int) (w : World) (hb : b < w.heap.size) (hc : w.cell? ⟨b, off, sp⟩ = some (.int .u64 (v : Nat))) (_hv : v < 18446744073709551616) (h1 : v / 256 % 256 ≤ 1) (h2 : v / 65536 % 65536 = 0) :
    Calls Tryd.prog 33 #[.slice (some ⟨b, off, sp⟩) 8 c, .int .i64 0, .int .u8 2, gv P I B] w fun e w' => e = .returned (.bool true) ∧ Below w.heap.size w w' := by
  clear _hv
  have g1 : (v : Int) / 256 % 256 ≤ 1 := by omega
  have g2 : ((v : Int) / 65536 % 65536 == 0) = true := by rw [beq_iff_eq]; omega
  clear h1 h2
  go_enter Tryd.func33, Tryd.ntmps33
  go_wp2_with (go_at_call 46; refine (rwi_calls _ _ _ _).mono ?_; rintro e w' ⟨rfl, rfl⟩)
  go_ret
  exact ⟨by simp, (Below.refl _ _).alloc (Nat.le_refl _) _⟩
set_option maxRecDepth 100000 in
theorem fits_zxf (b off : Nat) (sp : Option Nat) (c : Nat) (k : Int) (v : Nat) (P I B : Int) (w : World) (hb : b < w.heap.size) (hc : w.cell? ⟨b, off, sp⟩ = some (.int .u64 (v : Nat))) (_hv : v < 18446744073709551616) (hk0 : ¬ k = 0) (hk2 : ¬ k = 2) (h1 : ¬ v / 256 % 256 ≤ 8) (hk : k ≤ 3) :
    Calls Tryd.prog 33 #[.slice (some ⟨b, off, sp⟩) 8 c, .int .i64 0, .int .u8 k, gv P I B] w fun e w' => e = .returned (.bool false) ∧ Below w.heap.size w w' := by
  have n0 : (k == 0) = false := by simpa using hk0
  have n2 : (k == 2) = false := by simpa using hk2
  clear hk0 hk2
  clear _hv
  have g1 : decide ((v : Int) / 256 % 256 ≤ 8) = false := by rw [decide_eq_false_iff_not]; omega
  clear h1
  go_enter Tryd.func33, Tryd.ntmps33
  go_wp2_with (go_at_call 46; refine (rwi_calls _ _ _ _).mono ?_; rintro e w' ⟨rfl, rfl⟩)
  go_ret
  exact ⟨by simp, (Below.refl _ _).alloc (Nat.le_refl _) _⟩
set_option maxRecDepth 100000 in
theorem fits_zxtf (b off : Nat) (sp : Option Nat) (c : Nat) (k : Int) (v : Nat) (P I B : Int) (w : World) (hb : b < w.heap.size) (hc : w.cell? ⟨b, off, sp⟩ = some (.int .u64 (v : Nat))) (_hv : v < 18446744073709551616) (hk0 : ¬ k = 0) (hk2 : ¬ k = 2) (h1 : v / 256 % 256 ≤ 8) (h2 : ¬ v / 65536 % 65536 = 0) (hk : k ≤ 3) :
    Calls Tryd.prog 33 #[.slice (some ⟨b, off, sp⟩) 8 c, .int .i64 0, .int .u8 k, gv P I B] w fun e w' => e = .returned (.bool false) ∧ Below w.heap.size w w' := by
  have n0 : (k == 0) = false := by simpa using hk0
  have n2 : (k == 2) = false := by simpa using hk2
  clear hk0 hk2
  clear _hv
  have g1 : (v : Int) / 256 % 256 ≤ 8 := by omega
  have g2 : ((v : Int) / 65536 % 65536 == 0) = false := by rw [beq_eq_false_iff_ne]; omega
  clear h1 h2
  go_enter Tryd.func33, Tryd.ntmps33
  go_wp2_with (go_at_call 46; refine (rwi_calls _ _ _ _).mono ?_; rintro e w' ⟨rfl, rfl⟩)
  go_ret
  exact ⟨by simp, (Below.refl _ _).alloc (Nat.le_refl _) _⟩
set_option maxRecDepth 100000 in
theorem fits_zxtt (b off : Nat) (sp : Option Nat) (c : Nat) (k : Int) (v : Nat) (P I B : Int) (w : World) (hb : b < w.heap.size) (hc : w.cell? ⟨b, off, sp⟩ = some (.int .u64 (v : Nat))) (_hv : v < 18446744073709551616) (hk0 : ¬ k = 0) (hk2 : ¬ k = 2) (h1 : v / 256 % 256 ≤ 8) (h2 : v / 65536 % 65536 = 0) (hk : k ≤ 3) :
    Calls Tryd.prog 33 #[.slice (some ⟨b, off, sp⟩) 8 c, .int .i64 0, .int .u8 k, gv P I B] w fun e w' => e = .returned (.bool true) ∧ Below w.heap.size w w' := by
  have n0 : (k == 0) = false := by simpa using hk0
  have n2 : (k == 2) = false := by simpa using hk2
  clear hk0 hk2
  clear _hv
  have g1 : (v : Int) / 256 % 256 ≤ 8 := by omega
  have g2 : ((v : Int) / 65536 % 65536 == 0) = true := by rw [beq_iff_eq]; omega
  clear h1 h2
  go_enter Tryd.func33, Tryd.ntmps33
  go_wp2_with (go_at_call 46; refine (rwi_calls _ _ _ _).mono ?_; rintro e w' ⟨rfl, rfl⟩)
  go_ret
  exact ⟨by simp, (Below.refl _ _).alloc (Nat.le_refl _) _⟩
set_option maxRecDepth 100000 in
theorem fits_zb (b off : Nat) (sp : Option Nat) (c : Nat) (k : Int) (v : Nat) (P I B : Int) (w : World) (hb : b < w.heap.size) (hc : w.cell? ⟨b, off, sp⟩ = some (.int .u64 (v : Nat))) (_hv : v < 18446744073709551616) (hk0 : ¬ k = 0) (hk2 : ¬ k = 2) (hk : ¬ k ≤ 3) :
    Calls Tryd.prog 33 #[.slice (some ⟨b, off, sp⟩) 8 c, .int .i64 0, .int .u8 k, gv P I B] w fun e w' => e = .returned (.bool false) ∧ Below w.heap.size w w' := by
  have n0 : (k == 0) = false := by simpa using hk0
  have n2 : (k == 2) = false := by simpa using hk2
  clear hk0 hk2
  clear _hv
  have g1 : decide (k ≤ 3) = false := by rw [decide_eq_false_iff_not]; exact hk
  clear hk
  go_enter Tryd.func33, Tryd.ntmps33
  go_wp2_with (go_at_call 46; refine (rwi_calls _ _ _ _).mono ?_; rintro e w' ⟨rfl, rfl⟩)
  go_ret
  exact ⟨by simp, (Below.refl _ _).alloc (Nat.le_refl _) _⟩
set_option maxRecDepth 100000 in
theorem fits_h0 (b off : Nat) (sp : Option Nat) (c : Nat) (v : Nat) (P I B : Int) (w : World) (hb : b < w.heap.size) (hc : w.cell? ⟨b, off + 3, none⟩ = some (.int .u64 (v : Nat))) (hv : v < 18446744073709551616) (hle : v ≤ 4611686018427387904)  (h0 : B < (v : Int) % 256) :
    Calls Tryd.prog 33 #[.slice (some ⟨b, off, sp⟩) 8 c, .int .i64 3, .int .u8 2, gv P I B] w fun e w' => e = .returned (.bool false) ∧ Below w.heap.size w w' := by
  have e1 : IntKind.i64.wrap (v : Int) = v := by rw [IntKind.wrap_i64]; omega
  have e2 : decide ((4611686018427387904 : Int) < v) = false := by rw [decide_eq_false_iff_not]; omega
  have e3 : ¬ (4611686018427387904 : Int) < v := by omega
  clear hv hle
  go_enter Tryd.func33, Tryd.ntmps33
  go_wp2_with (go_at_call 46; refine (rwi_calls _ _ _ _).mono ?_; rintro e w' ⟨rfl, rfl⟩)
  refine wp_loop_rounds 5 ?_
  rw [rounds_succ]
  go_wp2_with (fail)
  go_ret
  exact ⟨rfl, (Below.refl _ _).alloc (Nat.le_refl _) _⟩
set_option maxRecDepth 100000 in
theorem fits_h1 (b off : Nat) (sp : Option Nat) (c : Nat) (v : Nat) (P I B : Int) (w : World) (hb : b < w.heap.size) (hc : w.cell? ⟨b, off + 3, none⟩ = some (.int .u64 (v : Nat))) (hv : v < 18446744073709551616) (hle : v ≤ 4611686018427387904) (h0 : (v : Int) % 256 ≤ B) (h1 : B < (v : Int) / 256 % 256) :
    Calls Tryd.prog 33 #[.slice (some ⟨b, off, sp⟩) 8 c, .int .i64 3, .int .u8 2, gv P I B] w fun e w' => e = .returned (.bool false) ∧ Below w.heap.size w w' := by
  have e1 : IntKind.i64.wrap (v : Int) = v := by rw [IntKind.wrap_i64]; omega
  have e2 : decide ((4611686018427387904 : Int) < v) = false := by rw [decide_eq_false_iff_not]; omega
  have e3 : ¬ (4611686018427387904 : Int) < v := by omega
  clear hv hle
  go_enter Tryd.func33, Tryd.ntmps33
  go_wp2_with (go_at_call 46; refine (rwi_calls _ _ _ _).mono ?_; rintro e w' ⟨rfl, rfl⟩)
  refine wp_loop_rounds 5 ?_
  rw [rounds_succ]
  go_wp2_with (fail)
  rw [rounds_succ]
  go_wp2_with (fail)
  go_ret
  exact ⟨rfl, (Below.refl _ _).alloc (Nat.le_refl _) _⟩
set_option maxRecDepth 100000 in
theorem fits_h2 (b off : Nat) (sp : Option Nat) (c : Nat) (v : Nat) (P I B : Int) (w : World) (hb : b < w.heap.size) (hc : w.cell? ⟨b, off + 3, none⟩ = some (.int .u64 (v : Nat))) (hv : v < 18446744073709551616) (hle : v ≤ 4611686018427387904) (h0 : (v : Int) % 256 ≤ B) (h1 : (v : Int) / 256 % 256 ≤ B) (h2 : B < (v : Int) / 65536 % 256) :
    Calls Tryd.prog 33 #[.slice (some ⟨b, off, sp⟩) 8 c, .int .i64 3, .int .u8 2, gv P I B] w fun e w' => e = .returned (.bool false) ∧ Below w.heap.size w w' := by
  have e1 : IntKind.i64.wrap (v : Int) = v := by rw [IntKind.wrap_i64]; omega
  have e2 : decide ((4611686018427387904 : Int) < v) = false := by rw [decide_eq_false_iff_not]; omega
  have e3 : ¬ (4611686018427387904 : Int) < v := by omega
  clear hv hle
  go_enter Tryd.func33, Tryd.ntmps33
  go_wp2_with (go_at_call 46; refine (rwi_calls _ _ _ _).mono ?_; rintro e w' ⟨rfl, rfl⟩)
  refine wp_loop_rounds 5 ?_
  rw [rounds_succ]
  go_wp2_with (fail)
  rw [rounds_succ]
  go_wp2_with (fail)
  rw [rounds_succ]
  go_wp2_with (fail)
  go_ret
  exact ⟨rfl, (Below.refl _ _).alloc (Nat.le_refl _) _⟩
set_option maxRecDepth 100000 in
theorem fits_h3 (b off : Nat) (sp : Option Nat) (c : Nat) (v : Nat) (P I B : Int) (w : World) (hb : b < w.heap.size) (hc : w.cell? ⟨b, off + 3, none⟩ = some (.int .u64 (v : Nat))) (hv : v < 18446744073709551616) (hle : v ≤ 4611686018427387904) (h0 : (v : Int) % 256 ≤ B) (h1 : (v : Int) / 256 % 256 ≤ B) (h2 : (v : Int) / 65536 % 256 ≤ B) (h3 : B < (v : Int) / 16777216 % 256) :
    Calls Tryd.prog 33 #[.slice (some ⟨b, off, sp⟩) 8 c, .int .i64 3, .int .u8 2, gv P I B] w fun e w' => e = .returned (.bool false) ∧ Below w.heap.size w w' := by
  have e1 : IntKind.i64.wrap (v : Int) = v := by rw [IntKind.wrap_i64]; omega
  have e2 : decide ((4611686018427387904 : Int) < v) = false := by rw [decide_eq_false_iff_not]; omega
  have e3 : ¬ (4611686018427387904 : Int) < v := by omega
  clear hv hle
  go_enter Tryd.func33, Tryd.ntmps33
  go_wp2_with (go_at_call 46; refine (rwi_calls _ _ _ _).mono ?_; rintro e w' ⟨rfl, rfl⟩)
  refine wp_loop_rounds 5 ?_
  rw [rounds_succ]
  go_wp2_with (fail)
  rw [rounds_succ]
  go_wp2_with (fail)
  rw [rounds_succ]
  go_wp2_with (fail)
  rw [rounds_succ]
  go_wp2_with (fail)
  go_ret
  exact ⟨rfl, (Below.refl _ _).alloc (Nat.le_refl _) _⟩
set_option maxRecDepth 100000 in
theorem fits_h4 (b off : Nat) (sp : Option Nat) (c : Nat) (v : Nat) (P I B : Int) (w : World) (hb : b < w.heap.size) (hc : w.cell? ⟨b, off + 3, none⟩ = some (.int .u64 (v : Nat))) (hv : v < 18446744073709551616) (hle : v ≤ 4611686018427387904) (h0 : (v : Int) % 256 ≤ B) (h1 : (v : Int) / 256 % 256 ≤ B) (h2 : (v : Int) / 65536 % 256 ≤ B) (h3 : (v : Int) / 16777216 % 256 ≤ B) :
    Calls Tryd.prog 33 #[.slice (some ⟨b, off, sp⟩) 8 c, .int .i64 3, .int .u8 2, gv P I B] w fun e w' => e = .returned (.bool (decide (v < 4294967296))) ∧ Below w.heap.size w w' := by
  have e1 : IntKind.i64.wrap (v : Int) = v := by rw [IntKind.wrap_i64]; omega
  have e2 : decide ((4611686018427387904 : Int) < v) = false := by rw [decide_eq_false_iff_not]; omega
  have e3 : ¬ (4611686018427387904 : Int) < v := by omega
  clear hv hle
  go_enter Tryd.func33, Tryd.ntmps33
  go_wp2_with (go_at_call 46; refine (rwi_calls _ _ _ _).mono ?_; rintro e w' ⟨rfl, rfl⟩)
  refine wp_loop_rounds 5 ?_
  rw [rounds_succ]
  go_wp2_with (fail)
  rw [rounds_succ]
  go_wp2_with (fail)
  rw [rounds_succ]
  go_wp2_with (fail)
  rw [rounds_succ]
  go_wp2_with (fail)
  rw [rounds_succ]
  go_wp2_with (fail)
  go_ret
  exact ⟨by rw [ltn v]; rfl, (Below.refl _ _).alloc (Nat.le_refl _) _⟩
set_option maxRecDepth 100000 in
theorem fits_calls (b off : Nat) (sp : Option Nat) (c : Nat) (i : Nat) (k : Int) (v : Nat) (P I B : Int) (w : World) (hi : i < 7) (hb : b < w.heap.size) (hc : w.cell? ((⟨b, off, sp⟩ : Addr).add i) = some (.int .u64 (v : Nat))) (hv : v < 18446744073709551616) :
    Calls Tryd.prog 33 #[.slice (some ⟨b, off, sp⟩) 8 c, .int .i64 i, .int .u8 k, gv P I B] w fun e w' => e = .returned (.bool (fitV i k v I B)) ∧ Below w.heap.size w w' := by
  have hi' : i = 0 ∨ i = 1 ∨ i = 2 ∨ i = 3 ∨ i = 4 ∨ i = 5 ∨ i = 6 := by omega
  clear hi
  unfold fitV
  rcases hi' with rfl | rfl | rfl | rfl | rfl | rfl | rfl
  · rw [if_pos rfl]
    by_cases hk : k ≤ 3
    · by_cases h1 : v / 256 % 256 ≤ mostL k
      · by_cases h2 : v / 65536 % 65536 = 0
        · have e : fit0 k v = true := by simp [fit0, hk, h1, h2]
          rw [e]
          by_cases k0 : k = 0
          · subst k0; exact fits_z0tt b off sp c v P I B w hb hc hv h1 h2
          by_cases k2 : k = 2
          · subst k2; exact fits_z2tt b off sp c v P I B w hb hc hv h1 h2
          · unfold mostL at h1; rw [if_neg k0, if_neg k2] at h1
            exact fits_zxtt b off sp c k v P I B w hb hc hv k0 k2 h1 h2 hk
        · have e : fit0 k v = false := by simp [fit0, hk, h1, h2]
          rw [e]
          by_cases k0 : k = 0
          · subst k0; exact fits_z0tf b off sp c v P I B w hb hc hv h1 h2
          by_cases k2 : k = 2
          · subst k2; exact fits_z2tf b off sp c v P I B w hb hc hv h1 h2
          · unfold mostL at h1; rw [if_neg k0, if_neg k2] at h1
            exact fits_zxtf b off sp c k v P I B w hb hc hv k0 k2 h1 h2 hk
      · have e : fit0 k v = false := by simp only [fit0]; rw [decide_eq_false h1]; simp
        rw [e]
        by_cases k0 : k = 0
        · subst k0; exact fits_z0f b off sp c v P I B w hb hc hv h1
        by_cases k2 : k = 2
        · subst k2; exact fits_z2f b off sp c v P I B w hb hc hv h1
        · unfold mostL at h1; rw [if_neg k0, if_neg k2] at h1
          exact fits_zxf b off sp c k v P I B w hb hc hv k0 k2 h1 hk
    · have e : fit0 k v = false := by simp only [fit0]; rw [decide_eq_false hk]; simp
      rw [e]
      exact fits_zb b off sp c k v P I B w hb hc hv (by omega) (by omega) hk
  · rw [if_neg (by omega)]
    by_cases hbig : 4611686018427387904 < v
    · rw [if_pos hbig]
      exact fits_big1 b off sp c k v P I B w hb hc hv hbig
    rw [if_neg hbig]
    have hle : v ≤ 4611686018427387904 := by omega
    by_cases k0 : k = 0
    · subst k0; exact fits_free1 b off sp c v P I B w hb hc hv hle
    unfold fitN
    rw [if_neg k0]
    rw [if_pos rfl]
    by_cases k1 : k = 1
    · subst k1; rw [if_pos rfl]; exact fits_a1_1 b off sp c v P I B w hb hc hv hle
    rw [if_neg k1]
    by_cases k2 : k = 2
    · subst k2; rw [if_pos rfl]; exact fits_a1_2 b off sp c v P I B w hb hc hv hle
    rw [if_neg k2]
    exact fits_a1_x b off sp c k v P I B w hb hc hv k0 k1 k2 hle
  · rw [if_neg (by omega)]
    by_cases hbig : 4611686018427387904 < v
    · rw [if_pos hbig]
      exact fits_big2 b off sp c k v P I B w hb hc hv hbig
    rw [if_neg hbig]
    have hle : v ≤ 4611686018427387904 := by omega
    by_cases k0 : k = 0
    · subst k0; exact fits_free2 b off sp c v P I B w hb hc hv hle
    unfold fitN
    rw [if_neg k0]
    rw [if_neg (by omega)]
    rw [if_pos rfl]
    exact fits_a2_x b off sp c k v P I B w hb hc hv k0 hle
  · rw [if_neg (by omega)]
    by_cases hbig : 4611686018427387904 < v
    · rw [if_pos hbig]
      exact fits_big3 b off sp c k v P I B w hb hc hv hbig
    rw [if_neg hbig]
    have hle : v ≤ 4611686018427387904 := by omega
    by_cases k0 : k = 0
    · subst k0; exact fits_free3 b off sp c v P I B w hb hc hv hle
    unfold fitN
    rw [if_neg k0]
    rw [if_neg (by omega)]
    rw [if_neg (by omega)]
    rw [if_pos rfl]
    by_cases k2 : k = 2
    · subst k2
      rw [if_pos rfl]
      by_cases h0 : (v : Int) % 256 ≤ B
      case neg => rw [decide_eq_false (by omega)]; exact fits_h0 b off sp c v P I B w hb hc hv hle (by omega)
      by_cases h1 : (v : Int) / 256 % 256 ≤ B
      case neg => rw [decide_eq_true (show ((v % 256 : Nat) : Int) ≤ B by omega), decide_eq_false (by omega)]; exact fits_h1 b off sp c v P I B w hb hc hv hle h0 (by omega)
      by_cases h2 : (v : Int) / 65536 % 256 ≤ B
      case neg => rw [decide_eq_true (show ((v % 256 : Nat) : Int) ≤ B by omega), decide_eq_true (show ((v / 256 % 256 : Nat) : Int) ≤ B by omega), decide_eq_false (by omega)]; exact fits_h2 b off sp c v P I B w hb hc hv hle h0 h1 (by omega)
      by_cases h3 : (v : Int) / 16777216 % 256 ≤ B
      case neg => rw [decide_eq_true (show ((v % 256 : Nat) : Int) ≤ B by omega), decide_eq_true (show ((v / 256 % 256 : Nat) : Int) ≤ B by omega), decide_eq_true (show ((v / 65536 % 256 : Nat) : Int) ≤ B by omega), decide_eq_false (by omega)]; exact fits_h3 b off sp c v P I B w hb hc hv hle h0 h1 h2 (by omega)
      rw [decide_eq_true (show ((v % 256 : Nat) : Int) ≤ B by omega), decide_eq_true (show ((v / 256 % 256 : Nat) : Int) ≤ B by omega), decide_eq_true (show ((v / 65536 % 256 : Nat) : Int) ≤ B by omega), decide_eq_true (show ((v / 16777216 % 256 : Nat) : Int) ≤ B by omega)]
      exact fits_h4 b off sp c v P I B w hb hc hv hle h0 h1 h2 h3
    rw [if_neg k2]
    by_cases k3 : k = 3
    · subst k3; rw [if_pos rfl]; exact fits_a3_3 b off sp c v P I B w hb hc hv hle
    rw [if_neg k3]
    exact fits_a3_x b off sp c k v P I B w hb hc hv k0 k2 k3 hle
  · rw [if_neg (by omega)]
    by_cases hbig : 4611686018427387904 < v
    · rw [if_pos hbig]
      exact fits_big4 b off sp c k v P I B w hb hc hv hbig
    rw [if_neg hbig]
    have hle : v ≤ 4611686018427387904 := by omega
    by_cases k0 : k = 0
    · subst k0; exact fits_free4 b off sp c v P I B w hb hc hv hle
    unfold fitN
    rw [if_neg k0]
    rw [if_neg (by omega)]
    rw [if_neg (by omega)]
    rw [if_neg (by omega)]
    rw [if_pos rfl]
    by_cases k2 : k = 2
    · subst k2; rw [if_pos rfl]; exact fits_a4_2 b off sp c v P I B w hb hc hv hle
    rw [if_neg k2]
    exact fits_a4_x b off sp c k v P I B w hb hc hv k0 k2 hle
  · rw [if_neg (by omega)]
    by_cases hbig : 4611686018427387904 < v
    · rw [if_pos hbig]
      exact fits_big5 b off sp c k v P I B w hb hc hv hbig
    rw [if_neg hbig]
    have hle : v ≤ 4611686018427387904 := by omega
    by_cases k0 : k = 0
    · subst k0; exact fits_free5 b off sp c v P I B w hb hc hv hle
    unfold fitN
    rw [if_neg k0]
    rw [if_neg (by omega)]
    rw [if_neg (by omega)]
    rw [if_neg (by omega)]
    rw [if_neg (by omega)]
    exact fits_a5_x b off sp c k v P I B w hb hc hv k0 hle
  · rw [if_neg (by omega)]
    by_cases hbig : 4611686018427387904 < v
    · rw [if_pos hbig]
      exact fits_big6 b off sp c k v P I B w hb hc hv hbig
    rw [if_neg hbig]
    have hle : v ≤ 4611686018427387904 := by omega
    by_cases k0 : k = 0
    · subst k0; exact fits_free6 b off sp c v P I B w hb hc hv hle
    unfold fitN
    rw [if_neg k0]
    rw [if_neg (by omega)]
    rw [if_neg (by omega)]
    rw [if_neg (by omega)]
    rw [if_neg (by omega)]
    exact fits_a6_x b off sp c k v P I B w hb hc hv k0 hle
end Go.Proofs.YtppnicdhahgigaaDoor
