/- Words and records: which words a record has, and which records words have. -/
import Derived.Test.YtppnicdhahgigaaDoorIno6
import Derived.Test.YtppnicdhahgigaaDoorFits
namespace Go.Proofs.YtppnicdhahgigaaDoor
open Go.RowKit WordMath
/-- The first of seven that lacks p. -/
def fst7 (p : Nat → Bool) : Nat :=
  if p 0 = false then 0 else if p 1 = false then 1 else if p 2 = false then 2 else if p 3 = false then 3 else if p 4 = false then 4 else if p 5 = false then 5 else if p 6 = false then 6 else 7
theorem fst7_first (p : Nat → Bool) : IsFirst (fun j => p j = true) 7 (fst7 p) := by
  unfold fst7
  cases h0 : p 0
  · exact ⟨by simp, fun j hj => by simp at hj, fun _ => by simp [h0]⟩
  cases h1 : p 1
  · exact ⟨by simp, fun j hj => (by simp at hj; subst hj; exact h0), fun _ => by simp [h1]⟩
  cases h2 : p 2
  · refine ⟨by simp, fun j hj => ?_, fun _ => by simp [h2]⟩
    simp at hj
    have : j = 0 ∨ j = 1 := by omega
    rcases this with rfl | rfl <;> assumption
  cases h3 : p 3
  · refine ⟨by simp, fun j hj => ?_, fun _ => by simp [h3]⟩
    simp at hj
    have : j = 0 ∨ j = 1 ∨ j = 2 := by omega
    rcases this with rfl | rfl | rfl <;> assumption
  cases h4 : p 4
  · refine ⟨by simp, fun j hj => ?_, fun _ => by simp [h4]⟩
    simp at hj
    have : j = 0 ∨ j = 1 ∨ j = 2 ∨ j = 3 := by omega
    rcases this with rfl | rfl | rfl | rfl <;> assumption
  cases h5 : p 5
  · refine ⟨by simp, fun j hj => ?_, fun _ => by simp [h5]⟩
    simp at hj
    have : j = 0 ∨ j = 1 ∨ j = 2 ∨ j = 3 ∨ j = 4 := by omega
    rcases this with rfl | rfl | rfl | rfl | rfl <;> assumption
  cases h6 : p 6
  · refine ⟨by simp, fun j hj => ?_, fun _ => by simp [h6]⟩
    simp at hj
    have : j = 0 ∨ j = 1 ∨ j = 2 ∨ j = 3 ∨ j = 4 ∨ j = 5 := by omega
    rcases this with rfl | rfl | rfl | rfl | rfl | rfl <;> assumption
  · refine ⟨by simp, fun j hj => ?_, fun h => by simp at h⟩
    simp at hj
    have : j = 0 ∨ j = 1 ∨ j = 2 ∨ j = 3 ∨ j = 4 ∨ j = 5 ∨ j = 6 := by omega
    rcases this with rfl | rfl | rfl | rfl | rfl | rfl | rfl <;> assumption
/-- Do the numbers of word j lie within the bounds? -/
def mB (x : Ino) (I B : Int) (j : Nat) : Bool :=
  if j = 0 then okK x.K && wi x.L (loI x.K).L (hiI x.K I B).L else if j = 1 then wi x.S (loI x.K).S (hiI x.K I B).S
  else if j = 2 then wi x.A (loI x.K).A (hiI x.K I B).A else if j = 3 then wi x.M (loI x.K).M (hiI x.K I B).M && headsB x (loI x.K) (hiI x.K I B)
  else if j = 4 then wi x.P (loI x.K).P (hiI x.K I B).P else if j = 5 then wi x.T (loI x.K).T (hiI x.K I B).T else wi x.C (loI x.K).C (hiI x.K I B).C
theorem mis_fst (x : Ino) (I B : Int) : misV x I B = (fst7 (mB x I B) : Nat) := by
  have e0 : mB x I B 0 = (okK x.K && wi x.L (loI x.K).L (hiI x.K I B).L) := rfl
  have e1 : mB x I B 1 = wi x.S (loI x.K).S (hiI x.K I B).S := rfl
  have e2 : mB x I B 2 = wi x.A (loI x.K).A (hiI x.K I B).A := rfl
  have e3 : mB x I B 3 = (wi x.M (loI x.K).M (hiI x.K I B).M && headsB x (loI x.K) (hiI x.K I B)) := rfl
  have e4 : mB x I B 4 = wi x.P (loI x.K).P (hiI x.K I B).P := rfl
  have e5 : mB x I B 5 = wi x.T (loI x.K).T (hiI x.K I B).T := rfl
  have e6 : mB x I B 6 = wi x.C (loI x.K).C (hiI x.K I B).C := rfl
  unfold misV misB fst7
  rw [e0, e1, e2, e3, e4, e5, e6]
  repeat' split
  all_goals rfl
/-- Each word is one of a record of the kind. -/
def fitL (l : List Nat) (I B : Int) (j : Nat) : Bool := fitV j ((l.getD 0 0 % 256 : Nat) : Int) (l.getD j 0) I B
theorem first_of (p q : Nat → Bool) (e : Nat → Prop) (r : Nat) (h : IsFirst e (fst7 q) r) (hh : ∀ j, j < 7 → (∀ i, i < j → p i = true) → (p j = true ↔ q j = true ∧ e j)) : r = fst7 p := by
  have hq := fst7_first q
  have h7 : fst7 q ≤ 7 := hq.le
  have key : ∀ n, n ≤ r → ∀ j, j < n → p j = true := by
    intro n
    induction n with
    | zero => intro _ j hj; omega
    | succ n ih =>
      intro hn j hj
      by_cases hjn : j < n
      · exact ih (by omega) j hjn
      · obtain rfl : j = n := by omega
        have := h.le
        exact (hh j (by omega) (fun i hi => ih (by omega) i hi)).2 ⟨hq.all j (by omega), h.all j (by omega)⟩
  have hall := key r (Nat.le_refl _)
  refine IsFirst.uniq (n := 7) ⟨by have := h.le; omega, hall, fun hr7 hp => ?_⟩ (fst7_first p)
  have hx := (hh r hr7 hall).1 hp
  by_cases hlt : r < fst7 q
  · exact h.no hlt hx.2
  · have : r = fst7 q := by have := h.le; omega
    subst this
    exact hq.no hr7 hx.1
theorem i64_cases (v : Nat) (h : v < 18446744073709551616) : (v < 9223372036854775808 ∧ i64 v = v) ∨ (9223372036854775808 ≤ v ∧ i64 v < 0) := by
  unfold i64; split <;> omega
theorem u64_i64 (v : Nat) (h : v < 18446744073709551616) : u64 (i64 v) = v := by
  unfold u64 i64; split <;> omega
theorem fld_a (v : Nat) : fld v 0 8 = v % 256 := by unfold fld; simp
theorem fld_b (v : Nat) : fld v 8 8 = v / 256 % 256 := by unfold fld; simp
theorem fld_c (v : Nat) : fld v 16 8 = v / 65536 % 256 := by unfold fld; simp
theorem fld_d (v : Nat) : fld v 24 8 = v / 16777216 % 256 := by unfold fld; simp
theorem fld_e (v : Nat) : fld v 32 32 = v / 4294967296 % 4294967296 := by unfold fld; simp
/-- The record of the words, number by number. -/
theorem rdW_parts (v0 v1 v2 v3 v4 v5 v6 : Nat) : (rdW v0 v1 v2 v3 v4 v5 v6).K = (v0 % 256 : Nat) ∧ (rdW v0 v1 v2 v3 v4 v5 v6).L = (v0 / 256 % 256 : Nat) ∧ (rdW v0 v1 v2 v3 v4 v5 v6).G = (v0 / 4294967296 % 4294967296 : Nat) ∧ (rdW v0 v1 v2 v3 v4 v5 v6).S = i64 v1 ∧ (rdW v0 v1 v2 v3 v4 v5 v6).A = i64 v2
    ∧ (rdW v0 v1 v2 v3 v4 v5 v6).P = i64 v4 ∧ (rdW v0 v1 v2 v3 v4 v5 v6).T = i64 v5 ∧ (rdW v0 v1 v2 v3 v4 v5 v6).C = i64 v6 := by
  unfold rdW
  rw [fld_a, fld_b, fld_e]
  split <;> exact ⟨rfl, rfl, rfl, rfl, rfl, rfl, rfl, rfl⟩
theorem rdW_dir (v0 v1 v2 v3 v4 v5 v6 : Nat) (h : v0 % 256 = 2) : (rdW v0 v1 v2 v3 v4 v5 v6).M = 0 ∧ (rdW v0 v1 v2 v3 v4 v5 v6).H0 = (v3 % 256 : Nat) ∧ (rdW v0 v1 v2 v3 v4 v5 v6).H1 = (v3 / 256 % 256 : Nat) ∧ (rdW v0 v1 v2 v3 v4 v5 v6).H2 = (v3 / 65536 % 256 : Nat) ∧ (rdW v0 v1 v2 v3 v4 v5 v6).H3 = (v3 / 16777216 % 256 : Nat) := by
  unfold rdW
  rw [fld_a, if_pos h, fld_a, fld_b, fld_c, fld_d]
  exact ⟨rfl, rfl, rfl, rfl, rfl⟩
theorem rdW_other (v0 v1 v2 v3 v4 v5 v6 : Nat) (h : ¬ v0 % 256 = 2) : (rdW v0 v1 v2 v3 v4 v5 v6).M = i64 v3 ∧ (rdW v0 v1 v2 v3 v4 v5 v6).H0 = 0 ∧ (rdW v0 v1 v2 v3 v4 v5 v6).H1 = 0 ∧ (rdW v0 v1 v2 v3 v4 v5 v6).H2 = 0 ∧ (rdW v0 v1 v2 v3 v4 v5 v6).H3 = 0 := by
  unfold rdW
  rw [fld_a, if_neg h]
  exact ⟨rfl, rfl, rfl, rfl, rfl⟩
theorem rdL_small (l : List Nat) : Small (rdL l) := by
  unfold rdL
  generalize l.getD 0 0 = v0
  generalize l.getD 1 0 = v1
  generalize l.getD 2 0 = v2
  generalize l.getD 3 0 = v3
  generalize l.getD 4 0 = v4
  generalize l.getD 5 0 = v5
  generalize l.getD 6 0 = v6
  obtain ⟨pK, pL, pG, -⟩ := rdW_parts v0 v1 v2 v3 v4 v5 v6
  by_cases h : v0 % 256 = 2
  · obtain ⟨pM, p0, p1, p2, p3⟩ := rdW_dir v0 v1 v2 v3 v4 v5 v6 h
    exact ⟨by rw [pK]; omega, by rw [pL]; omega, by rw [pG]; omega, by rw [p0]; omega, by rw [p1]; omega, by rw [p2]; omega, by rw [p3]; omega, fun _ => pM⟩
  · obtain ⟨pM, p0, p1, p2, p3⟩ := rdW_other v0 v1 v2 v3 v4 v5 v6 h
    exact ⟨by rw [pK]; omega, by rw [pL]; omega, by rw [pG]; omega, by rw [p0]; omega, by rw [p1]; omega, by rw [p2]; omega, by rw [p3]; omega, fun hk => by rw [pK] at hk; omega⟩
end Go.Proofs.YtppnicdhahgigaaDoor
