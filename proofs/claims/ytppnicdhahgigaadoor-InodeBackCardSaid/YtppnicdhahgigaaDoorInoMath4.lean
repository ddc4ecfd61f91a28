/- Words that are read are written as themselves; a record that may be may be where there is more of all. -/
import Derived.Test.YtppnicdhahgigaaDoorIRef4
import Derived.Test.YtppnicdhahgigaaDoorTurnMath
namespace Go.Proofs.YtppnicdhahgigaaDoor
open Go.RowKit WordMath SumMath
theorem back_ok {l : List Nat} (hl : Wd l) {P I B : Int} (h : decBad l P I B = none) : mayB (rdL l) P I B = true ∧ l = sealed (wL (rdL l)) := by
  unfold decBad at h
  split at h
  · cases h
  rename_i hg
  split at h
  · cases h
  rename_i h8
  split at h
  · cases h
  rename_i hs
  split at h
  case isFalse => cases h
  rename_i hf
  clear h
  have hg : GOK P I B := Classical.not_not.1 hg
  have h8 : l.length = 8 := Classical.not_not.1 h8
  have hs : isSealed l := Classical.not_not.1 hs
  have hall := fst7_seven hf
  have hw := fun j hj => (word_fits l hl I B hg.2.1 hg.2.2 j hj (fun i hi => hall i (by omega))).1 (hall j hj)
  have hm : misV (rdL l) I B = 7 := by
    rw [mis_fst]
    have : fst7 (mB (rdL l) I B) = 7 := IsFirst.uniq (fst7_first _) ⟨Nat.le_refl _, fun j hj => (hw j hj).1, fun h => absurd h (Nat.lt_irrefl _)⟩
    rw [this]; rfl
  refine ⟨mayB_iff.2 ⟨hg, hm⟩, ?_⟩
  have e7 : l.take 7 = [l.getD 0 0, l.getD 1 0, l.getD 2 0, l.getD 3 0, l.getD 4 0, l.getD 5 0, l.getD 6 0] := by
    match l, h8 with
    | [a, b, c, d, e, f, g, i], _ => rfl
  have e8 : l = l.take 7 ++ [l.getD 7 0] := by
    match l, h8 with
    | [a, b, c, d, e, f, g, i], _ => rfl
  have ew : l.take 7 = wL (rdL l) := by
    rw [e7, (hw 0 (by decide)).2, (hw 1 (by decide)).2, (hw 2 (by decide)).2, (hw 3 (by decide)).2, (hw 4 (by decide)).2, (hw 5 (by decide)).2, (hw 6 (by decide)).2]
    rfl
  have hs2 : l.getD 7 0 = sealW (l.take 7) := by
    have := hs.2
    rw [h8] at this
    exact this
  rw [hs2, ew] at e8
  exact e8
theorem wi_mono {n lo hi hi' : Int} (h : wi n lo hi = true) (hh : hi ≤ hi') : wi n lo hi' = true := by
  rw [wi_iff] at h ⊢
  omega
theorem hi_le {k I B I' B' : Int} (hI : I ≤ I') (hB : B ≤ B') : (hiI k I B).L ≤ (hiI k I' B').L ∧ (hiI k I B).S ≤ (hiI k I' B').S ∧ (hiI k I B).A ≤ (hiI k I' B').A ∧ (hiI k I B).M ≤ (hiI k I' B').M ∧ (hiI k I B).H0 ≤ (hiI k I' B').H0 ∧ (hiI k I B).H1 ≤ (hiI k I' B').H1 ∧ (hiI k I B).H2 ≤ (hiI k I' B').H2 ∧ (hiI k I B).H3 ≤ (hiI k I' B').H3
    ∧ (hiI k I B).P ≤ (hiI k I' B').P ∧ (hiI k I B).T ≤ (hiI k I' B').T ∧ (hiI k I B).C ≤ (hiI k I' B').C := by
  unfold hiI
  by_cases h1 : k = 1
  · simp [h1, hB]
  by_cases h2 : k = 2
  · simp [h2, hB, hI]
  by_cases h3 : k = 3
  · simp [h3, hB]
  · simp [h1, h2, h3]
theorem mB_mono {x : Ino} {I B I' B' : Int} (hI : I ≤ I') (hB : B ≤ B') (j : Nat) (hj : j < 7) (h : mB x I B j = true) : mB x I' B' j = true := by
  obtain ⟨a0, a1, a2, a3, a4, a5, a6, a7, a8, a9, a10⟩ := hi_le (k := x.K) hI hB
  have hj' : j = 0 ∨ j = 1 ∨ j = 2 ∨ j = 3 ∨ j = 4 ∨ j = 5 ∨ j = 6 := by omega
  rcases hj' with rfl | rfl | rfl | rfl | rfl | rfl | rfl
  · have h : (okK x.K && wi x.L (loI x.K).L (hiI x.K I B).L) = true := h
    show (okK x.K && wi x.L (loI x.K).L (hiI x.K I' B').L) = true
    rw [Bool.and_eq_true] at h ⊢
    exact ⟨h.1, wi_mono h.2 a0⟩
  · exact wi_mono (n := x.S) h a1
  · exact wi_mono (n := x.A) h a2
  · have h : (wi x.M (loI x.K).M (hiI x.K I B).M && headsB x (loI x.K) (hiI x.K I B)) = true := h
    show (wi x.M (loI x.K).M (hiI x.K I' B').M && headsB x (loI x.K) (hiI x.K I' B')) = true
    unfold headsB at h ⊢
    simp only [Bool.and_eq_true] at h ⊢
    obtain ⟨h1, h2, h3, h4, h5⟩ := h
    exact ⟨wi_mono h1 a3, wi_mono h2 a4, wi_mono h3 a5, wi_mono h4 a6, wi_mono h5 a7⟩
  · exact wi_mono (n := x.P) h a8
  · exact wi_mono (n := x.T) h a9
  · exact wi_mono (n := x.C) h a10
theorem may_mono {x : Ino} {P I B I' B' : Int} (h : mayB x P I B = true) (hI : I ≤ I') (hB : B ≤ B') (hI2 : I' ≤ 64) (hB2 : B' ≤ 255) : mayB x P I' B' = true := by
  obtain ⟨hg, h7⟩ := mayB_iff.1 h
  refine mayB_iff.2 ⟨⟨hg.1, ⟨by have := hg.2.1; omega, hI2⟩, ⟨by have := hg.2.2; omega, hB2⟩⟩, ?_⟩
  rw [mis_fst] at h7 ⊢
  have h7 : fst7 (mB x I B) = 7 := by omega
  have := IsFirst.uniq (fst7_first (mB x I' B')) ⟨Nat.le_refl _, fun j hj => mB_mono hI hB j hj (fst7_seven h7 j hj), fun h => absurd h (Nat.lt_irrefl _)⟩
  rw [this]; rfl
/-- With some of 32 bits in a row turned it is no record; with none it is. -/
theorem turned_ino {x : Ino} {P I B : Int} {k t : Nat} {Y : List Nat} (hx : Room x) (hm : mayB x P I B = true) (h : Turned (sealed (wL x)) k t 32 Y) (ht : t < 4294967296) : (decBad Y P I B).isNone = decide (t = 0) := by
  by_cases h0 : t = 0
  · subst h0
    rw [h.same (wd_sealed (wd_wL hx.small)), (bad_may hx P I B).2 hm]
    rfl
  · have hn : ¬ isSealed Y := Turned.told (wd_wL hx.small) h ht h0
    have hb : decBad Y P I B ≠ none := fun hb => hn (by
      rw [(back_ok h.wd hb).2]
      exact isSealed_sealed _)
    rw [decide_eq_false h0]
    cases hY : decBad Y P I B with
    | none => exact absurd hY hb
    | some k => rfl
end Go.Proofs.YtppnicdhahgigaaDoor
