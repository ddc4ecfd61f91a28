/- Word by word: the program's bounds and the document's are the same. -/
import Derived.Test.YtppnicdhahgigaaDoorInoMath
namespace Go.Proofs.YtppnicdhahgigaaDoor
open Go.RowKit WordMath
theorem bound_iff (v : Nat) (h : v < 18446744073709551616) (lo hi : Int) (h0 : 0 ≤ lo) (h1 : hi ≤ 4611686018427387904) : (if 4611686018427387904 < v then false else wi v lo hi) = wi (i64 v) lo hi := by
  rcases i64_cases v h with ⟨a, b⟩ | ⟨a, b⟩
  · rw [b]
    by_cases hb : 4611686018427387904 < v
    · rw [if_pos hb]; exact (wi_no (by omega)).symm
    · rw [if_neg hb]
  · rw [if_pos (by omega)]; exact (wi_no (by omega)).symm
theorem zero_wi (v : Nat) : decide (v = 0) = wi v 0 0 := by
  by_cases h : v = 0
  · subst h; rfl
  · rw [decide_eq_false h]; exact (wi_no (by omega)).symm
theorem wi000 : wi 0 0 0 = true := rfl
theorem word0 (v0 v1 v2 v3 v4 v5 v6 : Nat) (h0 : v0 < 18446744073709551616) (I B : Int) :
    fitV 0 ((v0 % 256 : Nat) : Int) v0 I B = true ↔ mB (rdW v0 v1 v2 v3 v4 v5 v6) I B 0 = true ∧ v0 = headN (rdW v0 v1 v2 v3 v4 v5 v6) := by
  obtain ⟨pK, pL, pG, -⟩ := rdW_parts v0 v1 v2 v3 v4 v5 v6
  unfold headN
  have e : mB (rdW v0 v1 v2 v3 v4 v5 v6) I B 0 = (okK (rdW v0 v1 v2 v3 v4 v5 v6).K && wi (rdW v0 v1 v2 v3 v4 v5 v6).L (loI (rdW v0 v1 v2 v3 v4 v5 v6).K).L (hiI (rdW v0 v1 v2 v3 v4 v5 v6).K I B).L) := rfl
  rw [e, pK, pL, pG]
  clear e pK pL pG v1 v2 v3 v4 v5 v6
  have e : fitV 0 ((v0 % 256 : Nat) : Int) v0 I B = fit0 ((v0 % 256 : Nat) : Int) v0 := rfl
  rw [e]
  clear e
  have hv : v0 % 256 = 0 ∨ v0 % 256 = 1 ∨ v0 % 256 = 2 ∨ v0 % 256 = 3 ∨ 3 < v0 % 256 := by omega
  rcases hv with hv | hv | hv | hv | hv
  · rw [hv]
    have e1 : okK ((0 : Nat) : Int) = true := rfl
    have e2 : (loI ((0 : Nat) : Int)).L = 0 := rfl
    have e3 : (hiI ((0 : Nat) : Int) I B).L = 0 := rfl
    have e4 : mostL ((0 : Nat) : Int) = 0 := rfl
    have e5 : decide (((0 : Nat) : Int) ≤ 3) = true := rfl
    rw [e1, e2, e3]
    unfold fit0 wi
    rw [e4, e5]
    simp only [Bool.true_and, Bool.and_eq_true, decide_eq_true_eq]
    omega
  · rw [hv]
    have e1 : okK ((1 : Nat) : Int) = true := rfl
    have e2 : (loI ((1 : Nat) : Int)).L = 0 := rfl
    have e3 : (hiI ((1 : Nat) : Int) I B).L = 8 := rfl
    have e4 : mostL ((1 : Nat) : Int) = 8 := rfl
    have e5 : decide (((1 : Nat) : Int) ≤ 3) = true := rfl
    rw [e1, e2, e3]
    unfold fit0 wi
    rw [e4, e5]
    simp only [Bool.true_and, Bool.and_eq_true, decide_eq_true_eq]
    omega
  · rw [hv]
    have e1 : okK ((2 : Nat) : Int) = true := rfl
    have e2 : (loI ((2 : Nat) : Int)).L = 0 := rfl
    have e3 : (hiI ((2 : Nat) : Int) I B).L = 1 := rfl
    have e4 : mostL ((2 : Nat) : Int) = 1 := rfl
    have e5 : decide (((2 : Nat) : Int) ≤ 3) = true := rfl
    rw [e1, e2, e3]
    unfold fit0 wi
    rw [e4, e5]
    simp only [Bool.true_and, Bool.and_eq_true, decide_eq_true_eq]
    omega
  · rw [hv]
    have e1 : okK ((3 : Nat) : Int) = true := rfl
    have e2 : (loI ((3 : Nat) : Int)).L = 0 := rfl
    have e3 : (hiI ((3 : Nat) : Int) I B).L = 8 := rfl
    have e4 : mostL ((3 : Nat) : Int) = 8 := rfl
    have e5 : decide (((3 : Nat) : Int) ≤ 3) = true := rfl
    rw [e1, e2, e3]
    unfold fit0 wi
    rw [e4, e5]
    simp only [Bool.true_and, Bool.and_eq_true, decide_eq_true_eq]
    omega
  · have e1 : okK ((v0 % 256 : Nat) : Int) = false := by unfold okK; rw [decide_eq_false_iff_not]; omega
    have e5 : decide (((v0 % 256 : Nat) : Int) ≤ 3) = false := by rw [decide_eq_false_iff_not]; omega
    unfold fit0
    rw [e1, e5]
    simp
theorem word1 (v0 v1 v2 v3 v4 v5 v6 : Nat) (hv : v1 < 18446744073709551616) (I B : Int) (_hI : 2 ≤ I ∧ I ≤ 64) (_hB : 4 ≤ B ∧ B ≤ 255) (hk : v0 % 256 ≤ 3) :
    fitV 1 ((v0 % 256 : Nat) : Int) v1 I B = true ↔ mB (rdW v0 v1 v2 v3 v4 v5 v6) I B 1 = true ∧ v1 = u64 (rdW v0 v1 v2 v3 v4 v5 v6).S := by
  obtain ⟨pK, pL, pG, pS, pA, pP, pT, pC⟩ := rdW_parts v0 v1 v2 v3 v4 v5 v6
  have hvs : v0 % 256 = 0 ∨ v0 % 256 = 1 ∨ v0 % 256 = 2 ∨ v0 % 256 = 3 := by omega
  have e : mB (rdW v0 v1 v2 v3 v4 v5 v6) I B 1 = wi (rdW v0 v1 v2 v3 v4 v5 v6).S (loI (rdW v0 v1 v2 v3 v4 v5 v6).K).S (hiI (rdW v0 v1 v2 v3 v4 v5 v6).K I B).S := rfl
  rw [e, pK, pS, u64_i64 v1 hv]
  clear e pK pL pG pS pA pP pT pC
  have key : ∀ lo hi : Int, 0 ≤ lo → hi ≤ 4611686018427387904 → ((if 4611686018427387904 < v1 then false else wi v1 lo hi) = true ↔ wi (i64 v1) lo hi = true ∧ v1 = v1) := fun lo hi a b => by rw [bound_iff v1 hv lo hi a b]; simp
  rcases hvs with hv0 | hv0 | hv0 | hv0
  · rw [hv0]
    have e1 : (loI ((0 : Nat) : Int)).S = 0 := rfl
    have e2 : (hiI ((0 : Nat) : Int) I B).S = 0 := rfl
    have e3 : fitV 1 ((0 : Nat) : Int) v1 I B = (if 4611686018427387904 < v1 then false else fitN 1 ((0 : Nat) : Int) v1 I B) := rfl
    have e4 : fitN 1 ((0 : Nat) : Int) v1 I B = wi v1 0 0 := zero_wi _
    rw [e1, e2, e3, e4]
    exact key _ _ (by omega) (by omega)
  · rw [hv0]
    have e1 : (loI ((1 : Nat) : Int)).S = 0 := rfl
    have e2 : (hiI ((1 : Nat) : Int) I B).S = 8192 := rfl
    have e3 : fitV 1 ((1 : Nat) : Int) v1 I B = (if 4611686018427387904 < v1 then false else fitN 1 ((1 : Nat) : Int) v1 I B) := rfl
    have e4 : fitN 1 ((1 : Nat) : Int) v1 I B = wi v1 0 8192 := rfl
    rw [e1, e2, e3, e4]
    exact key _ _ (by omega) (by omega)
  · rw [hv0]
    have e1 : (loI ((2 : Nat) : Int)).S = 0 := rfl
    have e2 : (hiI ((2 : Nat) : Int) I B).S = 4096 := rfl
    have e3 : fitV 1 ((2 : Nat) : Int) v1 I B = (if 4611686018427387904 < v1 then false else fitN 1 ((2 : Nat) : Int) v1 I B) := rfl
    have e4 : fitN 1 ((2 : Nat) : Int) v1 I B = wi v1 0 4096 := rfl
    rw [e1, e2, e3, e4]
    exact key _ _ (by omega) (by omega)
  · rw [hv0]
    have e1 : (loI ((3 : Nat) : Int)).S = 1 := rfl
    have e2 : (hiI ((3 : Nat) : Int) I B).S = 64 := rfl
    have e3 : fitV 1 ((3 : Nat) : Int) v1 I B = (if 4611686018427387904 < v1 then false else fitN 1 ((3 : Nat) : Int) v1 I B) := rfl
    have e4 : fitN 1 ((3 : Nat) : Int) v1 I B = wi v1 1 64 := rfl
    rw [e1, e2, e3, e4]
    exact key _ _ (by omega) (by omega)
theorem word2 (v0 v1 v2 v3 v4 v5 v6 : Nat) (hv : v2 < 18446744073709551616) (I B : Int) (_hI : 2 ≤ I ∧ I ≤ 64) (_hB : 4 ≤ B ∧ B ≤ 255) (hk : v0 % 256 ≤ 3) :
    fitV 2 ((v0 % 256 : Nat) : Int) v2 I B = true ↔ mB (rdW v0 v1 v2 v3 v4 v5 v6) I B 2 = true ∧ v2 = u64 (rdW v0 v1 v2 v3 v4 v5 v6).A := by
  obtain ⟨pK, pL, pG, pS, pA, pP, pT, pC⟩ := rdW_parts v0 v1 v2 v3 v4 v5 v6
  have hvs : v0 % 256 = 0 ∨ v0 % 256 = 1 ∨ v0 % 256 = 2 ∨ v0 % 256 = 3 := by omega
  have e : mB (rdW v0 v1 v2 v3 v4 v5 v6) I B 2 = wi (rdW v0 v1 v2 v3 v4 v5 v6).A (loI (rdW v0 v1 v2 v3 v4 v5 v6).K).A (hiI (rdW v0 v1 v2 v3 v4 v5 v6).K I B).A := rfl
  rw [e, pK, pA, u64_i64 v2 hv]
  clear e pK pL pG pS pA pP pT pC
  have key : ∀ lo hi : Int, 0 ≤ lo → hi ≤ 4611686018427387904 → ((if 4611686018427387904 < v2 then false else wi v2 lo hi) = true ↔ wi (i64 v2) lo hi = true ∧ v2 = v2) := fun lo hi a b => by rw [bound_iff v2 hv lo hi a b]; simp
  rcases hvs with hv0 | hv0 | hv0 | hv0
  · rw [hv0]
    have e1 : (loI ((0 : Nat) : Int)).A = 0 := rfl
    have e2 : (hiI ((0 : Nat) : Int) I B).A = 0 := rfl
    have e3 : fitV 2 ((0 : Nat) : Int) v2 I B = (if 4611686018427387904 < v2 then false else fitN 2 ((0 : Nat) : Int) v2 I B) := rfl
    have e4 : fitN 2 ((0 : Nat) : Int) v2 I B = wi v2 0 0 := zero_wi _
    rw [e1, e2, e3, e4]
    exact key _ _ (by omega) (by omega)
  · rw [hv0]
    have e1 : (loI ((1 : Nat) : Int)).A = 1 := rfl
    have e2 : (hiI ((1 : Nat) : Int) I B).A = B := rfl
    have e3 : fitV 2 ((1 : Nat) : Int) v2 I B = (if 4611686018427387904 < v2 then false else fitN 2 ((1 : Nat) : Int) v2 I B) := rfl
    have e4 : fitN 2 ((1 : Nat) : Int) v2 I B = wi v2 1 B := rfl
    rw [e1, e2, e3, e4]
    exact key _ _ (by omega) (by omega)
  · rw [hv0]
    have e1 : (loI ((2 : Nat) : Int)).A = 1 := rfl
    have e2 : (hiI ((2 : Nat) : Int) I B).A = B := rfl
    have e3 : fitV 2 ((2 : Nat) : Int) v2 I B = (if 4611686018427387904 < v2 then false else fitN 2 ((2 : Nat) : Int) v2 I B) := rfl
    have e4 : fitN 2 ((2 : Nat) : Int) v2 I B = wi v2 1 B := rfl
    rw [e1, e2, e3, e4]
    exact key _ _ (by omega) (by omega)
  · rw [hv0]
    have e1 : (loI ((3 : Nat) : Int)).A = 1 := rfl
    have e2 : (hiI ((3 : Nat) : Int) I B).A = B := rfl
    have e3 : fitV 2 ((3 : Nat) : Int) v2 I B = (if 4611686018427387904 < v2 then false else fitN 2 ((3 : Nat) : Int) v2 I B) := rfl
    have e4 : fitN 2 ((3 : Nat) : Int) v2 I B = wi v2 1 B := rfl
    rw [e1, e2, e3, e4]
    exact key _ _ (by omega) (by omega)
theorem word3 (v0 v1 v2 v3 v4 v5 v6 : Nat) (hv : v3 < 18446744073709551616) (I B : Int) (_hI : 2 ≤ I ∧ I ≤ 64) (_hB : 4 ≤ B ∧ B ≤ 255) (hk : v0 % 256 ≤ 3) :
    fitV 3 ((v0 % 256 : Nat) : Int) v3 I B = true ↔ mB (rdW v0 v1 v2 v3 v4 v5 v6) I B 3 = true ∧ v3 = bodyN (rdW v0 v1 v2 v3 v4 v5 v6) := by
  obtain ⟨pK, pL, pG, pS, pA, pP, pT, pC⟩ := rdW_parts v0 v1 v2 v3 v4 v5 v6
  have hvs : v0 % 256 = 0 ∨ v0 % 256 = 1 ∨ v0 % 256 = 2 ∨ v0 % 256 = 3 := by omega
  have e : mB (rdW v0 v1 v2 v3 v4 v5 v6) I B 3 = (wi (rdW v0 v1 v2 v3 v4 v5 v6).M (loI (rdW v0 v1 v2 v3 v4 v5 v6).K).M (hiI (rdW v0 v1 v2 v3 v4 v5 v6).K I B).M && headsB (rdW v0 v1 v2 v3 v4 v5 v6) (loI (rdW v0 v1 v2 v3 v4 v5 v6).K) (hiI (rdW v0 v1 v2 v3 v4 v5 v6).K I B)) := rfl
  unfold bodyN heads4
  rw [e, pK]
  clear e pK pL pG pS pA pP pT pC
  have key : ∀ lo hi : Int, 0 ≤ lo → hi ≤ 4611686018427387904 → ((if 4611686018427387904 < v3 then false else wi v3 lo hi) = true ↔ (wi (i64 v3) lo hi && true) = true ∧ v3 = v3) := fun lo hi a b => by rw [bound_iff v3 hv lo hi a b]; simp
  rcases hvs with hv0 | hv0 | hv0 | hv0
  · obtain ⟨pM, p0, p1, p2, p3⟩ := rdW_other v0 v1 v2 v3 v4 v5 v6 (by omega)
    have e5 : headsB (rdW v0 v1 v2 v3 v4 v5 v6) (loI ((0 : Nat) : Int)) (hiI ((0 : Nat) : Int) I B) = true := by
      unfold headsB; rw [p0, p1, p2, p3]; rfl
    rw [hv0, e5, pM, if_neg (by decide), u64_i64 v3 hv]
    have e1 : (loI ((0 : Nat) : Int)).M = 0 := rfl
    have e2 : (hiI ((0 : Nat) : Int) I B).M = 0 := rfl
    have e3 : fitV 3 ((0 : Nat) : Int) v3 I B = (if 4611686018427387904 < v3 then false else fitN 3 ((0 : Nat) : Int) v3 I B) := rfl
    have e4 : fitN 3 ((0 : Nat) : Int) v3 I B = wi v3 0 0 := zero_wi _
    rw [e1, e2, e3, e4]
    exact key _ _ (by omega) (by omega)
  · obtain ⟨pM, p0, p1, p2, p3⟩ := rdW_other v0 v1 v2 v3 v4 v5 v6 (by omega)
    have e5 : headsB (rdW v0 v1 v2 v3 v4 v5 v6) (loI ((1 : Nat) : Int)) (hiI ((1 : Nat) : Int) I B) = true := by
      unfold headsB; rw [p0, p1, p2, p3]; rfl
    rw [hv0, e5, pM, if_neg (by decide), u64_i64 v3 hv]
    have e1 : (loI ((1 : Nat) : Int)).M = 0 := rfl
    have e2 : (hiI ((1 : Nat) : Int) I B).M = B := rfl
    have e3 : fitV 3 ((1 : Nat) : Int) v3 I B = (if 4611686018427387904 < v3 then false else fitN 3 ((1 : Nat) : Int) v3 I B) := rfl
    have e4 : fitN 3 ((1 : Nat) : Int) v3 I B = wi v3 0 B := rfl
    rw [e1, e2, e3, e4]
    exact key _ _ (by omega) (by omega)
  · obtain ⟨pM, p0, p1, p2, p3⟩ := rdW_dir v0 v1 v2 v3 v4 v5 v6 hv0
    rw [hv0, pM, p0, p1, p2, p3, if_pos (show ((2 : Nat) : Int) = 2 from rfl)]
    have e5 : headsB (rdW v0 v1 v2 v3 v4 v5 v6) (loI ((2 : Nat) : Int)) (hiI ((2 : Nat) : Int) I B) = (wi ((v3 % 256 : Nat) : Int) 0 B && (wi ((v3 / 256 % 256 : Nat) : Int) 0 B && (wi ((v3 / 65536 % 256 : Nat) : Int) 0 B && wi ((v3 / 16777216 % 256 : Nat) : Int) 0 B))) := by
      unfold headsB; rw [p0, p1, p2, p3]; rfl
    have e1 : wi 0 (loI ((2 : Nat) : Int)).M (hiI ((2 : Nat) : Int) I B).M = true := rfl
    rw [e1, e5]
    have e3 : fitV 3 ((2 : Nat) : Int) v3 I B = (if 4611686018427387904 < v3 then false else (decide ((v3 % 256 : Nat) ≤ B) && (decide ((v3 / 256 % 256 : Nat) ≤ B) && (decide ((v3 / 65536 % 256 : Nat) ≤ B) && (decide ((v3 / 16777216 % 256 : Nat) ≤ B) && decide (v3 < 4294967296)))))) := rfl
    rw [e3]
    clear e1 e3 e5 pM p0 p1 p2 p3 key
    unfold wi
    by_cases hb : 4611686018427387904 < v3
    · rw [if_pos hb]
      simp only [Bool.true_and, Bool.and_eq_true, decide_eq_true_eq, Bool.false_eq_true, false_iff, not_and]
      intro _
      omega
    · rw [if_neg hb]
      simp only [Bool.true_and, Bool.and_eq_true, decide_eq_true_eq]
      omega
  · obtain ⟨pM, p0, p1, p2, p3⟩ := rdW_other v0 v1 v2 v3 v4 v5 v6 (by omega)
    have e5 : headsB (rdW v0 v1 v2 v3 v4 v5 v6) (loI ((3 : Nat) : Int)) (hiI ((3 : Nat) : Int) I B) = true := by
      unfold headsB; rw [p0, p1, p2, p3]; rfl
    rw [hv0, e5, pM, if_neg (by decide), u64_i64 v3 hv]
    have e1 : (loI ((3 : Nat) : Int)).M = 1 := rfl
    have e2 : (hiI ((3 : Nat) : Int) I B).M = B := rfl
    have e3 : fitV 3 ((3 : Nat) : Int) v3 I B = (if 4611686018427387904 < v3 then false else fitN 3 ((3 : Nat) : Int) v3 I B) := rfl
    have e4 : fitN 3 ((3 : Nat) : Int) v3 I B = wi v3 1 B := rfl
    rw [e1, e2, e3, e4]
    exact key _ _ (by omega) (by omega)
theorem word4 (v0 v1 v2 v3 v4 v5 v6 : Nat) (hv : v4 < 18446744073709551616) (I B : Int) (_hI : 2 ≤ I ∧ I ≤ 64) (_hB : 4 ≤ B ∧ B ≤ 255) (hk : v0 % 256 ≤ 3) :
    fitV 4 ((v0 % 256 : Nat) : Int) v4 I B = true ↔ mB (rdW v0 v1 v2 v3 v4 v5 v6) I B 4 = true ∧ v4 = u64 (rdW v0 v1 v2 v3 v4 v5 v6).P := by
  obtain ⟨pK, pL, pG, pS, pA, pP, pT, pC⟩ := rdW_parts v0 v1 v2 v3 v4 v5 v6
  have hvs : v0 % 256 = 0 ∨ v0 % 256 = 1 ∨ v0 % 256 = 2 ∨ v0 % 256 = 3 := by omega
  have e : mB (rdW v0 v1 v2 v3 v4 v5 v6) I B 4 = wi (rdW v0 v1 v2 v3 v4 v5 v6).P (loI (rdW v0 v1 v2 v3 v4 v5 v6).K).P (hiI (rdW v0 v1 v2 v3 v4 v5 v6).K I B).P := rfl
  rw [e, pK, pP, u64_i64 v4 hv]
  clear e pK pL pG pS pA pP pT pC
  have key : ∀ lo hi : Int, 0 ≤ lo → hi ≤ 4611686018427387904 → ((if 4611686018427387904 < v4 then false else wi v4 lo hi) = true ↔ wi (i64 v4) lo hi = true ∧ v4 = v4) := fun lo hi a b => by rw [bound_iff v4 hv lo hi a b]; simp
  rcases hvs with hv0 | hv0 | hv0 | hv0
  · rw [hv0]
    have e1 : (loI ((0 : Nat) : Int)).P = 0 := rfl
    have e2 : (hiI ((0 : Nat) : Int) I B).P = 0 := rfl
    have e3 : fitV 4 ((0 : Nat) : Int) v4 I B = (if 4611686018427387904 < v4 then false else fitN 4 ((0 : Nat) : Int) v4 I B) := rfl
    have e4 : fitN 4 ((0 : Nat) : Int) v4 I B = wi v4 0 0 := zero_wi _
    rw [e1, e2, e3, e4]
    exact key _ _ (by omega) (by omega)
  · rw [hv0]
    have e1 : (loI ((1 : Nat) : Int)).P = 0 := rfl
    have e2 : (hiI ((1 : Nat) : Int) I B).P = 0 := rfl
    have e3 : fitV 4 ((1 : Nat) : Int) v4 I B = (if 4611686018427387904 < v4 then false else fitN 4 ((1 : Nat) : Int) v4 I B) := rfl
    have e4 : fitN 4 ((1 : Nat) : Int) v4 I B = wi v4 0 0 := zero_wi _
    rw [e1, e2, e3, e4]
    exact key _ _ (by omega) (by omega)
  · rw [hv0]
    have e1 : (loI ((2 : Nat) : Int)).P = 1 := rfl
    have e2 : (hiI ((2 : Nat) : Int) I B).P = I := rfl
    have e3 : fitV 4 ((2 : Nat) : Int) v4 I B = (if 4611686018427387904 < v4 then false else fitN 4 ((2 : Nat) : Int) v4 I B) := rfl
    have e4 : fitN 4 ((2 : Nat) : Int) v4 I B = wi v4 1 I := rfl
    rw [e1, e2, e3, e4]
    exact key _ _ (by omega) (by omega)
  · rw [hv0]
    have e1 : (loI ((3 : Nat) : Int)).P = 0 := rfl
    have e2 : (hiI ((3 : Nat) : Int) I B).P = 0 := rfl
    have e3 : fitV 4 ((3 : Nat) : Int) v4 I B = (if 4611686018427387904 < v4 then false else fitN 4 ((3 : Nat) : Int) v4 I B) := rfl
    have e4 : fitN 4 ((3 : Nat) : Int) v4 I B = wi v4 0 0 := zero_wi _
    rw [e1, e2, e3, e4]
    exact key _ _ (by omega) (by omega)
theorem word5 (v0 v1 v2 v3 v4 v5 v6 : Nat) (hv : v5 < 18446744073709551616) (I B : Int) (_hI : 2 ≤ I ∧ I ≤ 64) (_hB : 4 ≤ B ∧ B ≤ 255) (hk : v0 % 256 ≤ 3) :
    fitV 5 ((v0 % 256 : Nat) : Int) v5 I B = true ↔ mB (rdW v0 v1 v2 v3 v4 v5 v6) I B 5 = true ∧ v5 = u64 (rdW v0 v1 v2 v3 v4 v5 v6).T := by
  obtain ⟨pK, pL, pG, pS, pA, pP, pT, pC⟩ := rdW_parts v0 v1 v2 v3 v4 v5 v6
  have hvs : v0 % 256 = 0 ∨ v0 % 256 = 1 ∨ v0 % 256 = 2 ∨ v0 % 256 = 3 := by omega
  have e : mB (rdW v0 v1 v2 v3 v4 v5 v6) I B 5 = wi (rdW v0 v1 v2 v3 v4 v5 v6).T (loI (rdW v0 v1 v2 v3 v4 v5 v6).K).T (hiI (rdW v0 v1 v2 v3 v4 v5 v6).K I B).T := rfl
  rw [e, pK, pT, u64_i64 v5 hv]
  clear e pK pL pG pS pA pP pT pC
  have key : ∀ lo hi : Int, 0 ≤ lo → hi ≤ 4611686018427387904 → ((if 4611686018427387904 < v5 then false else wi v5 lo hi) = true ↔ wi (i64 v5) lo hi = true ∧ v5 = v5) := fun lo hi a b => by rw [bound_iff v5 hv lo hi a b]; simp
  rcases hvs with hv0 | hv0 | hv0 | hv0
  · rw [hv0]
    have e1 : (loI ((0 : Nat) : Int)).T = 0 := rfl
    have e2 : (hiI ((0 : Nat) : Int) I B).T = 0 := rfl
    have e3 : fitV 5 ((0 : Nat) : Int) v5 I B = (if 4611686018427387904 < v5 then false else fitN 5 ((0 : Nat) : Int) v5 I B) := rfl
    have e4 : fitN 5 ((0 : Nat) : Int) v5 I B = wi v5 0 0 := zero_wi _
    rw [e1, e2, e3, e4]
    exact key _ _ (by omega) (by omega)
  · rw [hv0]
    have e1 : (loI ((1 : Nat) : Int)).T = 0 := rfl
    have e2 : (hiI ((1 : Nat) : Int) I B).T = 1099511627776 := rfl
    have e3 : fitV 5 ((1 : Nat) : Int) v5 I B = (if 4611686018427387904 < v5 then false else fitN 5 ((1 : Nat) : Int) v5 I B) := rfl
    have e4 : fitN 5 ((1 : Nat) : Int) v5 I B = wi v5 0 1099511627776 := rfl
    rw [e1, e2, e3, e4]
    exact key _ _ (by omega) (by omega)
  · rw [hv0]
    have e1 : (loI ((2 : Nat) : Int)).T = 0 := rfl
    have e2 : (hiI ((2 : Nat) : Int) I B).T = 1099511627776 := rfl
    have e3 : fitV 5 ((2 : Nat) : Int) v5 I B = (if 4611686018427387904 < v5 then false else fitN 5 ((2 : Nat) : Int) v5 I B) := rfl
    have e4 : fitN 5 ((2 : Nat) : Int) v5 I B = wi v5 0 1099511627776 := rfl
    rw [e1, e2, e3, e4]
    exact key _ _ (by omega) (by omega)
  · rw [hv0]
    have e1 : (loI ((3 : Nat) : Int)).T = 0 := rfl
    have e2 : (hiI ((3 : Nat) : Int) I B).T = 1099511627776 := rfl
    have e3 : fitV 5 ((3 : Nat) : Int) v5 I B = (if 4611686018427387904 < v5 then false else fitN 5 ((3 : Nat) : Int) v5 I B) := rfl
    have e4 : fitN 5 ((3 : Nat) : Int) v5 I B = wi v5 0 1099511627776 := rfl
    rw [e1, e2, e3, e4]
    exact key _ _ (by omega) (by omega)
theorem word6 (v0 v1 v2 v3 v4 v5 v6 : Nat) (hv : v6 < 18446744073709551616) (I B : Int) (_hI : 2 ≤ I ∧ I ≤ 64) (_hB : 4 ≤ B ∧ B ≤ 255) (hk : v0 % 256 ≤ 3) :
    fitV 6 ((v0 % 256 : Nat) : Int) v6 I B = true ↔ mB (rdW v0 v1 v2 v3 v4 v5 v6) I B 6 = true ∧ v6 = u64 (rdW v0 v1 v2 v3 v4 v5 v6).C := by
  obtain ⟨pK, pL, pG, pS, pA, pP, pT, pC⟩ := rdW_parts v0 v1 v2 v3 v4 v5 v6
  have hvs : v0 % 256 = 0 ∨ v0 % 256 = 1 ∨ v0 % 256 = 2 ∨ v0 % 256 = 3 := by omega
  have e : mB (rdW v0 v1 v2 v3 v4 v5 v6) I B 6 = wi (rdW v0 v1 v2 v3 v4 v5 v6).C (loI (rdW v0 v1 v2 v3 v4 v5 v6).K).C (hiI (rdW v0 v1 v2 v3 v4 v5 v6).K I B).C := rfl
  rw [e, pK, pC, u64_i64 v6 hv]
  clear e pK pL pG pS pA pP pT pC
  have key : ∀ lo hi : Int, 0 ≤ lo → hi ≤ 4611686018427387904 → ((if 4611686018427387904 < v6 then false else wi v6 lo hi) = true ↔ wi (i64 v6) lo hi = true ∧ v6 = v6) := fun lo hi a b => by rw [bound_iff v6 hv lo hi a b]; simp
  rcases hvs with hv0 | hv0 | hv0 | hv0
  · rw [hv0]
    have e1 : (loI ((0 : Nat) : Int)).C = 0 := rfl
    have e2 : (hiI ((0 : Nat) : Int) I B).C = 0 := rfl
    have e3 : fitV 6 ((0 : Nat) : Int) v6 I B = (if 4611686018427387904 < v6 then false else fitN 6 ((0 : Nat) : Int) v6 I B) := rfl
    have e4 : fitN 6 ((0 : Nat) : Int) v6 I B = wi v6 0 0 := zero_wi _
    rw [e1, e2, e3, e4]
    exact key _ _ (by omega) (by omega)
  · rw [hv0]
    have e1 : (loI ((1 : Nat) : Int)).C = 0 := rfl
    have e2 : (hiI ((1 : Nat) : Int) I B).C = 1099511627776 := rfl
    have e3 : fitV 6 ((1 : Nat) : Int) v6 I B = (if 4611686018427387904 < v6 then false else fitN 6 ((1 : Nat) : Int) v6 I B) := rfl
    have e4 : fitN 6 ((1 : Nat) : Int) v6 I B = wi v6 0 1099511627776 := rfl
    rw [e1, e2, e3, e4]
    exact key _ _ (by omega) (by omega)
  · rw [hv0]
    have e1 : (loI ((2 : Nat) : Int)).C = 0 := rfl
    have e2 : (hiI ((2 : Nat) : Int) I B).C = 1099511627776 := rfl
    have e3 : fitV 6 ((2 : Nat) : Int) v6 I B = (if 4611686018427387904 < v6 then false else fitN 6 ((2 : Nat) : Int) v6 I B) := rfl
    have e4 : fitN 6 ((2 : Nat) : Int) v6 I B = wi v6 0 1099511627776 := rfl
    rw [e1, e2, e3, e4]
    exact key _ _ (by omega) (by omega)
  · rw [hv0]
    have e1 : (loI ((3 : Nat) : Int)).C = 0 := rfl
    have e2 : (hiI ((3 : Nat) : Int) I B).C = 1099511627776 := rfl
    have e3 : fitV 6 ((3 : Nat) : Int) v6 I B = (if 4611686018427387904 < v6 then false else fitN 6 ((3 : Nat) : Int) v6 I B) := rfl
    have e4 : fitN 6 ((3 : Nat) : Int) v6 I B = wi v6 0 1099511627776 := rfl
    rw [e1, e2, e3, e4]
    exact key _ _ (by omega) (by omega)
theorem word_fits (l : List Nat) (hl : Wd l) (I B : Int) (hI : 2 ≤ I ∧ I ≤ 64) (hB : 4 ≤ B ∧ B ≤ 255) (j : Nat) (hj : j < 7) (hp : ∀ i, i < j → fitL l I B i = true) :
    fitL l I B j = true ↔ mB (rdL l) I B j = true ∧ l.getD j 0 = (wrL (rdL l)).getD j 0 := by
  have hj' : j = 0 ∨ j = 1 ∨ j = 2 ∨ j = 3 ∨ j = 4 ∨ j = 5 ∨ j = 6 := by omega
  have hk : 0 < j → l.getD 0 0 % 256 ≤ 3 := fun h => by
    have := hp 0 h
    have e : fitL l I B 0 = (decide (((l.getD 0 0 % 256 : Nat) : Int) ≤ 3) && (decide (l.getD 0 0 / 256 % 256 ≤ mostL ((l.getD 0 0 % 256 : Nat) : Int)) && decide (l.getD 0 0 / 65536 % 65536 = 0))) := rfl
    rw [e] at this
    simp only [Bool.and_eq_true, decide_eq_true_eq] at this
    omega
  rcases hj' with rfl | rfl | rfl | rfl | rfl | rfl | rfl
  · exact word0 _ _ _ _ _ _ _ (hl 0) I B
  · exact word1 _ _ _ _ _ _ _ (hl 1) I B hI hB (hk (by omega))
  · exact word2 _ _ _ _ _ _ _ (hl 2) I B hI hB (hk (by omega))
  · exact word3 _ _ _ _ _ _ _ (hl 3) I B hI hB (hk (by omega))
  · exact word4 _ _ _ _ _ _ _ (hl 4) I B hI hB (hk (by omega))
  · exact word5 _ _ _ _ _ _ _ (hl 5) I B hI hB (hk (by omega))
  · exact word6 _ _ _ _ _ _ _ (hl 6) I B hI hB (hk (by omega))
/-- The first word that no record of the kind has, found by either. -/
theorem wrong_is (l : List Nat) (hl : Wd l) (I B : Int) (hI : 2 ≤ I ∧ I ≤ 64) (hB : 4 ≤ B ∧ B ≤ 255) (r : Nat) (h : IsFirst (fun j => l.getD j 0 = (wrL (rdL l)).getD j 0) (misV (rdL l) I B).toNat r) : r = fst7 (fitL l I B) := by
  rw [mis_fst] at h
  exact first_of (fitL l I B) (mB (rdL l) I B) _ r h (word_fits l hl I B hI hB)
end Go.Proofs.YtppnicdhahgigaaDoor
