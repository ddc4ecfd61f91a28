/- Where words are no superblock: the first word that differs from the words that they specify. -/
import Derived.Test.YtgedahjifbopcaaDoorSupMath
import Derived.Test.YtgedahjifbopcaaDoorSum5
namespace Go.Proofs.YtgedahjifbopcaaDoor
open SumMath WordMath
/-- Words that have the string, and the seal. -/
structure Sld (l : List Nat) : Prop where
  len : l.length = 8
  title : l.getD 0 0 = titleW
  shut : isSealed l
/-- The words that they specify. -/
def ownL (l : List Nat) : List Nat := superL (fP (l.getD 1 0)) (fI (l.getD 1 0)) (fB (l.getD 1 0)) (fH (l.getD 1 0))
def Gd (l : List Nat) : Prop := GOK (fP (l.getD 1 0)) (fI (l.getD 1 0)) (fB (l.getD 1 0))
instance gd_dec (l : List Nat) : Decidable (Gd l) := by unfold Gd; infer_instance
theorem own_len (l : List Nat) : (ownL l).length = 8 := rfl
theorem own_1 (l : List Nat) : (ownL l).getD 1 0 = l.getD 1 0 % 562949953421312 := by
  rw [← f_fields]; rfl
theorem own_mid (l : List Nat) (j : Nat) (h1 : 2 ≤ j) (h2 : j ≤ 6) : (ownL l).getD j 0 = 0 := by
  rcases (by omega : j = 2 ∨ j = 3 ∨ j = 4 ∨ j = 5 ∨ j = 6) with rfl | rfl | rfl | rfl | rfl <;> rfl
theorem own_7 {l : List Nat} (h : Sld l) (hs : ∀ j, j < 7 → l.getD j 0 = (ownL l).getD j 0) : l.getD 7 0 = (ownL l).getD 7 0 := by
  have h7 := h.shut.2
  rw [h.len] at h7
  have ht : l.take (8 - 1) = supL (fP (l.getD 1 0)) (fI (l.getD 1 0)) (fB (l.getD 1 0)) (fH (l.getD 1 0)) := by
    apply List.ext_getElem
    · rw [List.length_take, h.len]; rfl
    · intro j h1 h2
      have hj : j < 7 := by rw [List.length_take, h.len] at h1; omega
      have h3 := hs j hj
      have hjl : j < l.length := by rw [h.len]; omega
      rw [List.getD_eq_getElem?_getD, List.getElem?_eq_getElem hjl, Option.getD_some] at h3
      rw [List.getElem_take, h3]
      unfold ownL superL sealed
      rw [List.getD_eq_getElem?_getD, List.getElem?_append_left h2, List.getElem?_eq_getElem h2, Option.getD_some]
  rw [ht] at h7
  exact h7
theorem bad_len {l : List Nat} (h : l.length ≠ 8) : badAt l = some 0 := by
  unfold badAt
  rw [if_pos (fun hh => h hh.1)]
theorem bad_title {l : List Nat} (h : l.getD 0 0 ≠ titleW) : badAt l = some 0 := by
  unfold badAt
  rw [if_pos (fun hh => h hh.2)]
theorem bad_seal {l : List Nat} (h1 : l.length = 8) (h2 : l.getD 0 0 = titleW) (h3 : ¬ isSealed l) : badAt l = some 7 := by
  unfold badAt
  rw [if_neg (fun hh => hh ⟨h1, h2⟩), if_pos h3]
theorem bad_geom {l : List Nat} (h : Sld l) (h3 : ¬ Gd l) : badAt l = some 1 := by
  unfold badAt
  rw [if_neg (fun hh => hh ⟨h.len, h.title⟩), if_neg (fun hh => hh h.shut), if_pos (fun hh => h3 hh.2)]
theorem bad_first {l : List Nat} (h : Sld l) (h3 : Gd l) {k : Nat} (hk : k < 8) (hs : ∀ j, j < k → l.getD j 0 = (ownL l).getD j 0) (hne : l.getD k 0 ≠ (ownL l).getD k 0) : badAt l = some k := by
  unfold badAt
  rw [if_neg (fun hh => hh ⟨h.len, h.title⟩), if_neg (fun hh => hh h.shut)]
  have h1 := own_1 l
  have hm := fun j => own_mid l j
  have h0 : k ≠ 0 := by
    rintro rfl
    exact hne h.title
  have h7 : k ≠ 7 := by
    rintro rfl
    exact hne (own_7 h hs)
  by_cases h1k : k = 1
  · subst h1k
    rw [if_pos (fun hh => hne (by rw [h1, Nat.mod_eq_of_lt hh.1]))]
  · have e1 := hs 1 (by omega)
    rw [h1] at e1
    have hlt : l.getD 1 0 < 562949953421312 := by omega
    rw [if_neg (fun hh => hh ⟨hlt, h3⟩)]
    have z := fun j (h2 : 2 ≤ j) (hj : j < k) (h6 : j ≤ 6) => (hs j hj).trans (hm j h2 h6)
    have hn := hne
    rw [hm k (by omega) (by omega)] at hn
    rcases (by omega : k = 2 ∨ k = 3 ∨ k = 4 ∨ k = 5 ∨ k = 6) with rfl | rfl | rfl | rfl | rfl
    · rw [if_pos hn]
    · rw [if_neg (fun hh => hh (z 2 (by omega) (by omega) (by omega))), if_pos hn]
    · rw [if_neg (fun hh => hh (z 2 (by omega) (by omega) (by omega))), if_neg (fun hh => hh (z 3 (by omega) (by omega) (by omega))), if_pos hn]
    · rw [if_neg (fun hh => hh (z 2 (by omega) (by omega) (by omega))), if_neg (fun hh => hh (z 3 (by omega) (by omega) (by omega))), if_neg (fun hh => hh (z 4 (by omega) (by omega) (by omega))), if_pos hn]
    · rw [if_neg (fun hh => hh (z 2 (by omega) (by omega) (by omega))), if_neg (fun hh => hh (z 3 (by omega) (by omega) (by omega))), if_neg (fun hh => hh (z 4 (by omega) (by omega) (by omega))), if_neg (fun hh => hh (z 5 (by omega) (by omega) (by omega))), if_pos hn]
theorem bad_none {l : List Nat} (h : Sld l) (h3 : Gd l) (hs : ∀ j, j < 8 → l.getD j 0 = (ownL l).getD j 0) : badAt l = none := by
  unfold badAt
  rw [if_neg (fun hh => hh ⟨h.len, h.title⟩), if_neg (fun hh => hh h.shut)]
  have e1 := hs 1 (by omega)
  rw [own_1 l] at e1
  have hlt : l.getD 1 0 < 562949953421312 := by omega
  rw [if_neg (fun hh => hh ⟨hlt, h3⟩)]
  have z := fun j (h2 : 2 ≤ j) (h6 : j ≤ 6) => (hs j (by omega)).trans (own_mid l j h2 h6)
  rw [if_neg (fun hh => hh (z 2 (by omega) (by omega))), if_neg (fun hh => hh (z 3 (by omega) (by omega))), if_neg (fun hh => hh (z 4 (by omega) (by omega))), if_neg (fun hh => hh (z 5 (by omega) (by omega))), if_neg (fun hh => hh (z 6 (by omega) (by omega)))]
theorem bad_high {l : List Nat} (h : Sld l) (h3 : ¬ l.getD 1 0 < 562949953421312) : badAt l = some 1 := by
  unfold badAt
  rw [if_neg (fun hh => hh ⟨h.len, h.title⟩), if_neg (fun hh => hh h.shut), if_pos (fun hh => h3 hh.1)]
theorem own_to {l : List Nat} (h : Sld l) (hlt : l.getD 1 0 < 562949953421312) {k : Nat} (hk : k ≤ 7) (hz : ∀ j, 2 ≤ j → j < k → l.getD j 0 = 0) : ∀ j, j < k → l.getD j 0 = (ownL l).getD j 0 := by
  intro j hj
  by_cases h0 : j = 0
  · rw [h0]; exact h.title
  · by_cases h1 : j = 1
    · rw [h1, own_1, Nat.mod_eq_of_lt hlt]
    · rw [own_mid l j (by omega) (by omega)]
      exact hz j (by omega) hj
theorem bad_mid {l : List Nat} (h : Sld l) (h3 : Gd l) (hlt : l.getD 1 0 < 562949953421312) {k : Nat} (h2 : 2 ≤ k) (hk : k ≤ 6) (hz : ∀ j, 2 ≤ j → j < k → l.getD j 0 = 0) (hne : l.getD k 0 ≠ 0) : badAt l = some k :=
  bad_first h h3 (by omega) (own_to h hlt (by omega) hz) (by rw [own_mid l k h2 hk]; exact hne)
theorem bad_all {l : List Nat} (h : Sld l) (h3 : Gd l) (hlt : l.getD 1 0 < 562949953421312) (hz : ∀ j, 2 ≤ j → j < 7 → l.getD j 0 = 0) : badAt l = none := by
  have h7 := own_to h hlt (Nat.le_refl 7) hz
  refine bad_none h h3 fun j hj => ?_
  by_cases hj7 : j < 7
  · exact h7 j hj7
  · obtain rfl : j = 7 := by omega
    exact own_7 h h7
/-- What is a superblock is what it specifies. -/
theorem good_eq {l : List Nat} (h : badAt l = none) : Sld l ∧ Gd l ∧ l = ownL l := by
  unfold badAt at h
  have hA : l.length = 8 ∧ l.getD 0 0 = titleW := Classical.byContradiction fun hh => by rw [if_pos hh] at h; cases h
  rw [if_neg (fun hh => hh hA)] at h
  have hS : isSealed l := Classical.byContradiction fun hh => by rw [if_pos hh] at h; cases h
  rw [if_neg (fun hh => hh hS)] at h
  have hG : l.getD 1 0 < 562949953421312 ∧ GOK (fP (l.getD 1 0)) (fI (l.getD 1 0)) (fB (l.getD 1 0)) := Classical.byContradiction fun hh => by rw [if_pos hh] at h; cases h
  rw [if_neg (fun hh => hh hG)] at h
  have h2 : l.getD 2 0 = 0 := Classical.byContradiction fun hh => by rw [if_pos hh] at h; cases h
  rw [if_neg (fun hh => hh h2)] at h
  have h3 : l.getD 3 0 = 0 := Classical.byContradiction fun hh => by rw [if_pos hh] at h; cases h
  rw [if_neg (fun hh => hh h3)] at h
  have h4 : l.getD 4 0 = 0 := Classical.byContradiction fun hh => by rw [if_pos hh] at h; cases h
  rw [if_neg (fun hh => hh h4)] at h
  have h5 : l.getD 5 0 = 0 := Classical.byContradiction fun hh => by rw [if_pos hh] at h; cases h
  rw [if_neg (fun hh => hh h5)] at h
  have h6 : l.getD 6 0 = 0 := Classical.byContradiction fun hh => by rw [if_pos hh] at h; cases h
  have hl : Sld l := ⟨hA.1, hA.2, hS⟩
  have h0 : ∀ j, j < 7 → l.getD j 0 = (ownL l).getD j 0 := by
    intro j hj
    rcases (by omega : j = 0 ∨ j = 1 ∨ j = 2 ∨ j = 3 ∨ j = 4 ∨ j = 5 ∨ j = 6) with rfl | rfl | rfl | rfl | rfl | rfl | rfl
    · exact hA.2
    · rw [own_1, Nat.mod_eq_of_lt hG.1]
    · rw [h2]; rfl
    · rw [h3]; rfl
    · rw [h4]; rfl
    · rw [h5]; rfl
    · rw [h6]; rfl
  refine ⟨hl, hG.2, ?_⟩
  apply List.ext_getElem
  · rw [hA.1, own_len]
  · intro j h1 h2'
    have hj : j < 8 := by rw [hA.1] at h1; exact h1
    have h9 : l.getD j 0 = (ownL l).getD j 0 := by
      by_cases h7 : j < 7
      · exact h0 j h7
      · obtain rfl : j = 7 := by omega
        exact own_7 hl h0
    simpa [List.getD_eq_getElem?_getD, List.getElem?_eq_getElem h1, List.getElem?_eq_getElem h2'] using h9
theorem super_wd {P I B h : Nat} (hf : Fits P I B h) : Wd (superL P I B h) := by
  unfold superL
  refine Wd.of_mem fun x hx => ?_
  unfold sealed at hx
  rw [List.mem_append, List.mem_singleton] at hx
  rcases hx with hx | rfl
  · exact (sup_wd hf).mem x hx
  · exact sealW_lt (sup_wd hf).mem
/-- What was encoded is a superblock, of what was encoded. -/
theorem super_good {P I B h : Nat} (hf : Fits P I B h) (hg : GOK P I B) : badAt (superL P I B h) = none ∧ ownL (superL P I B h) = superL P I B h := by
  obtain ⟨e1, e2, e3, e4⟩ := f_of hf
  have h1 : (superL P I B h).getD 1 0 = fieldsW P I B h := rfl
  have ho : ownL (superL P I B h) = superL P I B h := by
    unfold ownL
    rw [h1, e1, e2, e3, e4]
  refine ⟨bad_none ⟨rfl, rfl, isSealed_sealed _⟩ ?_ (fun j _ => by rw [ho]), ho⟩
  unfold Gd
  rw [h1, e1, e2, e3]
  exact hg
end Go.Proofs.YtgedahjifbopcaaDoor
