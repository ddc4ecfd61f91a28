/- Which geometries may be; rows of regions: within, Check, rowOf. -/
import Derived.Test.YthimikdhdcjneaaCel
import Derived.Test.YthimikdhdcjneaaProg
import Derived.WalkKit
import Derived.WalkSpells
import Derived.WalkLawsBesides
import Derived.Lib.Hide
import Derived.Deep.QuietTactic
import Derived.BigQuiet
import Derived.Outline
namespace Go.Proofs.Ythimikdhdcjneaa
open Go.RowKit
theorem within_yes (n lo hi : Int) (w : World) (h1 : lo ≤ n) (h2 : n ≤ hi) : Calls Try.prog 22 #[.int .i64 n, .int .i64 lo, .int .i64 hi] w fun e w' => e = .returned (.bool true) ∧ w = w' := by
  go_enter Try.func22, Try.ntmps22
  go_wp2
  go_ret
  exact ⟨rfl, rfl⟩
theorem within_no (n lo hi : Int) (w : World) (h : n < lo ∨ hi < n) : Calls Try.prog 22 #[.int .i64 n, .int .i64 lo, .int .i64 hi] w fun e w' => e = .returned (.bool false) ∧ w = w' := by
  by_cases h1 : lo ≤ n
  · have h2 : hi < n := by omega
    clear h
    go_enter Try.func22, Try.ntmps22
    have h3 : decide (n ≤ hi) = false := by rw [decide_eq_false_iff_not]; omega
    go_wp2
    go_ret
    exact ⟨by simp, rfl⟩
  · have h2 : n < lo := by omega
    clear h h1
    go_enter Try.func22, Try.ntmps22
    go_wp2
    go_ret
    exact ⟨rfl, rfl⟩
/-- A geometry as a value. -/
abbrev gv (P I B : Int) : Value := .agg #[.int .i64 P, .int .i64 I, .int .i64 B]
/-- It may be. -/
def GOK (P I B : Int) : Prop := (1 ≤ P ∧ P ≤ 8) ∧ (2 ≤ I ∧ I ≤ 64) ∧ (4 ≤ B ∧ B ≤ 255)
theorem check_ok (P I B : Int) (w : World) (h : GOK P I B) : Calls Try.prog 12 #[gv P I B] w fun e w' => e = .returned (.int .i64 0) ∧ Below w.heap.size w w' := by
  obtain ⟨⟨h1, h2⟩, ⟨h3, h4⟩, ⟨h5, h6⟩⟩ := h
  go_enter Try.func12, Try.ntmps12
  go_wp2_with (go_at_call 22; refine (within_yes _ _ _ _ (by assumption) (by assumption)).mono ?_; rintro e w' ⟨rfl, rfl⟩)
  go_ret
  exact ⟨rfl, (Below.refl _ _).alloc (Nat.le_refl _) _⟩
theorem check_bad (P I B : Int) (w : World) (h : ¬ GOK P I B) : Calls Try.prog 12 #[gv P I B] w fun e w' => e = .returned (.int .i64 2) ∧ Below w.heap.size w w' := by
  by_cases h1 : 1 ≤ P ∧ P ≤ 8
  · by_cases h2 : 2 ≤ I ∧ I ≤ 64
    · have h3 : B < 4 ∨ 255 < B := by unfold GOK at h; omega
      clear h
      go_enter Try.func12, Try.ntmps12
      go_wp2_with fail
      refine (within_yes _ _ _ _ h1.1 h1.2).mono ?_
      rintro e w' ⟨rfl, rfl⟩
      go_wp2_with fail
      refine (within_yes _ _ _ _ h2.1 h2.2).mono ?_
      rintro e w' ⟨rfl, rfl⟩
      go_wp2_with fail
      refine (within_no _ _ _ _ h3).mono ?_
      rintro e w' ⟨rfl, rfl⟩
      go_wp2_with fail
      go_ret
      exact ⟨rfl, (Below.refl _ _).alloc (Nat.le_refl _) _⟩
    · have h3 : I < 2 ∨ 64 < I := by omega
      clear h h2
      go_enter Try.func12, Try.ntmps12
      go_wp2_with fail
      refine (within_yes _ _ _ _ h1.1 h1.2).mono ?_
      rintro e w' ⟨rfl, rfl⟩
      go_wp2_with fail
      refine (within_no _ _ _ _ h3).mono ?_
      rintro e w' ⟨rfl, rfl⟩
      go_wp2_with fail
      go_ret
      exact ⟨rfl, (Below.refl _ _).alloc (Nat.le_refl _) _⟩
  · have h3 : P < 1 ∨ 8 < P := by omega
    clear h h1
    go_enter Try.func12, Try.ntmps12
    go_wp2_with fail
    refine (within_no _ _ _ _ h3).mono ?_
    rintro e w' ⟨rfl, rfl⟩
    go_wp2_with fail
    go_ret
    exact ⟨rfl, (Below.refl _ _).alloc (Nat.le_refl _) _⟩
/-- A row of regions: the first one's number, how many, words of each. -/
def rowF (k : Nat) : Nat := if k = 3 ∨ k = 5 then 1 else 0
def rowC (P I B : Nat) (k : Nat) : Nat := if k = 3 then I else if k = 4 then P else if k = 5 then B else 1
def rowW (k : Nat) : Nat := if k = 4 then 136 else if k = 5 then 32 else 8
abbrev rowV (P I B : Nat) (k : Nat) : Value := .agg #[.int .i64 (rowF k : Nat), .int .i64 (rowC P I B k : Nat), .int .i64 (rowW k : Nat)]
theorem two_allocs (w : World) (o o' : Obj) : Below w.heap.size w ((w.alloc o).alloc o') := ((Below.refl _ _).alloc (Nat.le_refl _) _).alloc (by simp) _
theorem rowOf_calls (P I B : Nat) (k : Nat) (w : World) (hk : k ≤ 5) : Calls Try.prog 26 #[gv P I B, .int .u8 (k : Nat)] w fun e w' => e = .returned (rowV P I B k) ∧ Below w.heap.size w w' := by
  by_cases h3 : k = 3
  · subst h3
    go_enter Try.func26, Try.ntmps26
    go_wp2
    exact bodyPost_ret (v := rowV P I B 3) (by simp [results, Try.results26, go_sem, rowF, rowC, rowW]) rfl ⟨rfl, two_allocs _ _ _⟩
  · by_cases h4 : k = 4
    · subst h4
      go_enter Try.func26, Try.ntmps26
      go_wp2
      exact bodyPost_ret (v := rowV P I B 4) (by simp [results, Try.results26, go_sem, rowF, rowC, rowW]) rfl ⟨rfl, two_allocs _ _ _⟩
    · by_cases h5 : k = 5
      · subst h5
        go_enter Try.func26, Try.ntmps26
        go_wp2
        exact bodyPost_ret (v := rowV P I B 5) (by simp [results, Try.results26, go_sem, rowF, rowC, rowW]) rfl ⟨rfl, two_allocs _ _ _⟩
      · have n3 : ((k : Int) == 3) = false := by rw [beq_eq_false_iff_ne]; omega
        have n4 : ((k : Int) == 4) = false := by rw [beq_eq_false_iff_ne]; omega
        have n5 : ((k : Int) == 5) = false := by rw [beq_eq_false_iff_ne]; omega
        have H : Hid (rowF k = 0 ∧ rowC P I B k = 1 ∧ rowW k = 8) := Lib.hid (by simp [rowF, rowC, rowW, h3, h4, h5])
        clear h3 h4 h5
        go_enter Try.func26, Try.ntmps26
        go_wp2
        refine bodyPost_ret (v := rowV P I B k) ?_ rfl ⟨rfl, two_allocs _ _ _⟩
        obtain ⟨e1, e2, e3⟩ := H.out
        simp [results, Try.results26, go_sem, e1, e2, e3]
end Go.Proofs.Ythimikdhdcjneaa
