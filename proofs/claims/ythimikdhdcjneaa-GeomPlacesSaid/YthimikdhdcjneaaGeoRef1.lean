/- The document's own geometry: which may be; all regions. -/
import Derived.Test.YthimikdhdcjneaaGeo5
import Derived.Lib.Hide
namespace Go.Proofs.Ythimikdhdcjneaa
open Go.RowKit
theorem may_yes (P I B : Int) (w : World) (h : GOK P I B) : Calls Try.prog 11 #[gv P I B] w fun e w' => e = .returned (.bool true) ∧ Below w.heap.size w w' := by
  obtain ⟨⟨h1, h2⟩, ⟨h3, h4⟩, ⟨h5, h6⟩⟩ := h
  go_enter Try.func11, Try.ntmps11
  go_wp2
  go_ret
  exact ⟨by simp, (Below.refl _ _).alloc (Nat.le_refl _) _⟩
theorem may_no1 (P I B : Int) (w : World)  (n : P < 1) : Calls Try.prog 11 #[gv P I B] w fun e w' => e = .returned (.bool false) ∧ Below w.heap.size w w' := by
  have hd : decide (1 ≤ P) = false := by rw [decide_eq_false_iff_not]; omega
  go_enter Try.func11, Try.ntmps11
  go_wp2
  go_ret
  exact ⟨by simp, (Below.refl _ _).alloc (Nat.le_refl _) _⟩
theorem may_no2 (P I B : Int) (w : World) (h1 : 1 ≤ P) (n : 8 < P) : Calls Try.prog 11 #[gv P I B] w fun e w' => e = .returned (.bool false) ∧ Below w.heap.size w w' := by
  have hd : decide (P ≤ 8) = false := by rw [decide_eq_false_iff_not]; omega
  go_enter Try.func11, Try.ntmps11
  go_wp2
  go_ret
  exact ⟨by simp, (Below.refl _ _).alloc (Nat.le_refl _) _⟩
theorem may_no3 (P I B : Int) (w : World) (h1 : 1 ≤ P) (h2 : P ≤ 8) (n : I < 2) : Calls Try.prog 11 #[gv P I B] w fun e w' => e = .returned (.bool false) ∧ Below w.heap.size w w' := by
  have hd : decide (2 ≤ I) = false := by rw [decide_eq_false_iff_not]; omega
  go_enter Try.func11, Try.ntmps11
  go_wp2
  go_ret
  exact ⟨by simp, (Below.refl _ _).alloc (Nat.le_refl _) _⟩
theorem may_no4 (P I B : Int) (w : World) (h1 : 1 ≤ P) (h2 : P ≤ 8) (h3 : 2 ≤ I) (n : 64 < I) : Calls Try.prog 11 #[gv P I B] w fun e w' => e = .returned (.bool false) ∧ Below w.heap.size w w' := by
  have hd : decide (I ≤ 64) = false := by rw [decide_eq_false_iff_not]; omega
  go_enter Try.func11, Try.ntmps11
  go_wp2
  go_ret
  exact ⟨by simp, (Below.refl _ _).alloc (Nat.le_refl _) _⟩
theorem may_no5 (P I B : Int) (w : World) (h1 : 1 ≤ P) (h2 : P ≤ 8) (h3 : 2 ≤ I) (h4 : I ≤ 64) (n : B < 4) : Calls Try.prog 11 #[gv P I B] w fun e w' => e = .returned (.bool false) ∧ Below w.heap.size w w' := by
  have hd : decide (4 ≤ B) = false := by rw [decide_eq_false_iff_not]; omega
  go_enter Try.func11, Try.ntmps11
  go_wp2
  go_ret
  exact ⟨by simp, (Below.refl _ _).alloc (Nat.le_refl _) _⟩
theorem may_no6 (P I B : Int) (w : World) (h1 : 1 ≤ P) (h2 : P ≤ 8) (h3 : 2 ≤ I) (h4 : I ≤ 64) (h5 : 4 ≤ B) (n : 255 < B) : Calls Try.prog 11 #[gv P I B] w fun e w' => e = .returned (.bool false) ∧ Below w.heap.size w w' := by
  have hd : decide (B ≤ 255) = false := by rw [decide_eq_false_iff_not]; omega
  go_enter Try.func11, Try.ntmps11
  go_wp2
  go_ret
  exact ⟨by simp, (Below.refl _ _).alloc (Nat.le_refl _) _⟩
theorem may_no (P I B : Int) (w : World) (h : ¬ GOK P I B) : Calls Try.prog 11 #[gv P I B] w fun e w' => e = .returned (.bool false) ∧ Below w.heap.size w w' := by
  by_cases h1 : 1 ≤ P
  case neg => exact may_no1 P I B w  (by omega)
  by_cases h2 : P ≤ 8
  case neg => exact may_no2 P I B w h1 (by omega)
  by_cases h3 : 2 ≤ I
  case neg => exact may_no3 P I B w h1 h2 (by omega)
  by_cases h4 : I ≤ 64
  case neg => exact may_no4 P I B w h1 h2 h3 (by omega)
  by_cases h5 : 4 ≤ B
  case neg => exact may_no5 P I B w h1 h2 h3 h4 (by omega)
  by_cases h6 : B ≤ 255
  case neg => exact may_no6 P I B w h1 h2 h3 h4 h5 (by omega)
  exact absurd ⟨⟨h1, h2⟩, ⟨h3, h4⟩, ⟨h5, h6⟩⟩ h

/-- A region, and how many words it has. -/
structure Sp where
  k : Nat
  n : Nat
  m : Nat
def sp0 : Sp := ⟨0, 0, 0⟩
/-- Regions as cells: four each. -/
def sv : List Sp → List Value
  | [] => []
  | p :: r => .int .u8 (p.k : Nat) :: .int .i64 (p.n : Nat) :: .int .i64 0 :: .int .i64 (p.m : Nat) :: sv r
theorem sv_length (L : List Sp) : (sv L).length = L.length * 4 := by
  induction L with
  | nil => rfl
  | cons p r ih => simp only [sv, List.length_cons, ih]; omega
theorem sv_append (L M : List Sp) : sv (L ++ M) = sv L ++ sv M := by
  induction L with
  | nil => rfl
  | cons p r ih => simp only [List.cons_append, sv, ih]
theorem sv_one (L : List Sp) : ∀ u ∈ sv L, u.oneCell' = true := by
  induction L with
  | nil => simp [sv]
  | cons p r ih =>
    intro u hu
    simp only [sv, List.mem_cons] at hu
    rcases hu with rfl | rfl | rfl | rfl | hu
    · rfl
    · rfl
    · rfl
    · rfl
    · exact ih u hu
theorem sv_get (L : List Sp) : ∀ k, k < L.length → (sv L)[k * 4]? = some (.int .u8 ((L.getD k sp0).k : Nat)) ∧ (sv L)[k * 4 + 1]? = some (.int .i64 ((L.getD k sp0).n : Nat)) ∧ (sv L)[k * 4 + 2]? = some (.int .i64 0) ∧ (sv L)[k * 4 + 3]? = some (.int .i64 ((L.getD k sp0).m : Nat)) := by
  induction L with
  | nil => intro k hk; simp at hk
  | cons p r ih =>
    intro k hk
    cases k with
    | zero => exact ⟨rfl, rfl, rfl, rfl⟩
    | succ k =>
      have := ih k (by simpa using hk)
      rw [Nat.add_mul]
      exact this
/-- The regions. -/
def headL : List Sp := [⟨1, 0, 8⟩, ⟨2, 0, 8⟩]
def inoL (i : Nat) : List Sp := (List.range i).map fun j => ⟨3, j + 1, 8⟩
def slotL (i : Nat) : List Sp := (List.range i).map fun j => ⟨4, j, 136⟩
def blkL (i : Nat) : List Sp := (List.range i).map fun j => ⟨5, j + 1, 32⟩
theorem inoL_step (i : Nat) : inoL (i + 1) = inoL i ++ [⟨3, i + 1, 8⟩] := by simp [inoL, List.range_succ]
theorem slotL_step (i : Nat) : slotL (i + 1) = slotL i ++ [⟨4, i, 136⟩] := by simp [slotL, List.range_succ]
theorem blkL_step (i : Nat) : blkL (i + 1) = blkL i ++ [⟨5, i + 1, 32⟩] := by simp [blkL, List.range_succ]
theorem inoL_length (i : Nat) : (inoL i).length = i := by simp [inoL]
theorem slotL_length (i : Nat) : (slotL i).length = i := by simp [slotL]
theorem blkL_length (i : Nat) : (blkL i).length = i := by simp [blkL]
def allL (P I B : Nat) : List Sp := headL ++ inoL I ++ slotL P ++ blkL B
/-- A row of regions of the call's own; B: its blocks lie above. -/
def Regs (w : World) (B : Nat) (v : Value) (L : List Sp) : Prop := ∃ g c, v = .slice (some ⟨g, 0, none⟩) L.length c ∧ OwnR w 48 4 (some ⟨g, 0, none⟩) L.length c (sv L) ∧ B ≤ g
end Go.Proofs.Ythimikdhdcjneaa
