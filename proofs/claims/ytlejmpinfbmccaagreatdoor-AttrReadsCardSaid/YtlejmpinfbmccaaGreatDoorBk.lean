/- What was encoded is decoded as itself, and the other way. -/
import Derived.Test.YtlejmpinfbmccaaGreatDoorDe
set_option linter.unusedSimpArgs false
set_option linter.unusedVariables false
set_option linter.unusedSimpArgs false
set_option linter.unusedVariables false
namespace Go.Proofs.YtlejmpinfbmccaaGreatDoor
open Go.RowKit SumMath WordMath
theorem wdA_one (l : List Nat) (h : Nat) : wdA l h 1 = [l.getD h 0] := rfl
theorem wdA_two (l : List Nat) (h : Nat) : wdA l h 2 = [l.getD h 0, l.getD (h + 1) 0] := rfl
theorem txtV_txtB (l : List Nat) (n : Nat) (h : n ≤ 8 * l.length) : txtV l (n : Nat) = txtB l n := by
  rw [txtV_yes ⟨by omega, by omega⟩]
  rfl
theorem rdXp_eq (l : List Nat) (k : Nat) (h1 : fld (l.getD (13 + 4 * k) 0) 0 8 ≤ 8) (h2 : fld (l.getD (13 + 4 * k) 0) 8 8 ≤ 16) : rdXp l (12 + 4 * k) = rdX l k := by
  unfold rdXp rdX
  rw [wdA_one, wdA_two, show 12 + 4 * k + 1 = 13 + 4 * k by omega, show 12 + 4 * k + 2 = 14 + 4 * k by omega, show 14 + 4 * k + 1 = 15 + 4 * k by omega]
  rw [txtV_txtB _ _ (by simpa using h1), txtV_txtB _ _ (by simpa using h2)]
theorem sizes_of {L : List Xt} {k : Nat} {p : Xt} (hp : L[k]? = some p) (h8 : p.key.size ≤ 8) (h16 : p.val.size ≤ 16) : fld (xaW L k 1) 0 8 = p.key.size ∧ fld (xaW L k 1) 8 8 = p.val.size := by
  have e1 : xaW L k 1 = p.key.size + 256 * p.val.size := by unfold xaW; rw [hp]; rfl
  rw [e1]
  refine ⟨?_, ?_⟩ <;> (simp only [fld_div, Nat.reducePow]; omega)
theorem atL_13 (x : At) (k : Nat) (hk : k < 4) : (atL x).getD (13 + 4 * k) 0 = xaW x.xs k 1 := by
  obtain rfl | rfl | rfl | rfl : k = 0 ∨ k = 1 ∨ k = 2 ∨ k = 3 := by omega
  all_goals rfl
/-- **What is written is read back.** -/
theorem rdP_atL {x : At} (h : AtFit x) : rdP (atL x) = x := by
  have hb := at_back (x := x) (atL x) h (fun k _ => rfl)
  have hn : (rdAt (atL x)).xs = x.xs := by rw [hb]
  have e : rdP (atL x) = rdAt (atL x) := by
    unfold rdP rdAt
    congr 1
    unfold xaL
    apply List.map_congr_left
    intro k hk
    have hk4 : k < min (fld ((atL x).getD 0 0) 4 4) 4 := by simpa using hk
    have hlen : (List.range (min (fld ((atL x).getD 0 0) 4 4) 4)).length = x.xs.length := by
      rw [← hn]
      unfold rdAt
      simp
    have hkl : k < x.xs.length := by rw [← hlen]; simpa using hk4
    have hp := List.getElem?_eq_getElem hkl
    obtain ⟨s1, s2⟩ := h.xs k _ hp
    obtain ⟨f1, f2⟩ := sizes_of hp s1 s2
    exact rdXp_eq _ _ (by rw [atL_13 x k (by omega), f1]; exact s1) (by rw [atL_13 x k (by omega), f2]; exact s2)
  rw [e, hb]
theorem mk_sealed {x : At} (h : AtFit x) : mkB (sealed (atL x)) = true := by
  have hf := flg_lt x.hd
  have h1 := h.bi
  have h2 := h.xl
  unfold mkB
  rw [Bool.and_eq_true, decide_eq_true_eq, decide_eq_true_eq]
  refine ⟨sealed_len x, ?_⟩
  have e0 : (atL x).getD 0 0 = x.bi + 8 * flg x.hd + 16 * x.xs.length + 4294967296 * 1096045650 := rfl
  have e : (sealed (atL x)).getD 0 0 = (atL x).getD 0 0 := by
    unfold sealed
    rw [List.getD_eq_getElem?_getD, List.getElem?_append_left (by rw [atL_len]; decide), ← List.getD_eq_getElem?_getD]
  rw [e, e0]
  simp only [fld_div, Nat.reducePow]
  generalize x.xs.length = n at *
  generalize flg x.hd = f at *
  omega
theorem take_sealed (x : At) : (sealed (atL x)).take 31 = atL x := by
  have h := sealed_take (atL x)
  rw [sealed_len] at h
  exact h
theorem open_sealed (x : At) : openB (sealed (atL x)) = true := openB_yes (isSealed_sealed _)
theorem sameV_refl (l : List Nat) : sameV l l = true := by unfold sameV; exact decide_eq_true rfl
theorem attA_none {l : List Nat} (h : badA l = none) : attA l = rdP (l.take 31) := by
  unfold attA
  rw [h]
theorem dec_of {l : List Nat} {x : At} (h1 : mkB l = true) (h2 : openB l = true) (h3 : l.take 31 = atL x) (h4 : rdP (atL x) = x) (hm : amayB x = true) (h5 : sealed (atL x) = l) : badA l = none ∧ attA l = x := by
  have e : badA l = none := badA_no h1 h2 (by rw [h3, h4, hm, h5, sameV_refl]; rfl)
  exact ⟨e, by rw [attA_none e, h3, h4]⟩
theorem dec_back {x : At} (hm : amayB x = true) (hn : ANum x) : badA (sealed (atL x)) = none ∧ attA (sealed (atL x)) = x :=
  have hf := fit_of hm hn
  dec_of (mk_sealed hf) (open_sealed x) (take_sealed x) (rdP_atL hf) hm rfl
/-- What is decoded is encoded as itself. -/
theorem dec_conv {l : List Nat} (h : badA l = none) : amayB (attA l) = true ∧ ANum (attA l) ∧ sealed (atL (attA l)) = l := by
  rw [attA_none h]
  unfold badA at h
  split at h
  · cases h
  · split at h
    · cases h
    · split at h
      · rename_i hh
        rw [Bool.and_eq_true] at hh
        refine ⟨hh.1, rdP_num _, ?_⟩
        unfold sameV at hh
        exact of_decide_eq_true hh.2
      · cases h
theorem bad_of_open {l : List Nat} (h : ¬ isSealed l) : badA l ≠ none := by
  unfold badA
  split
  · simp
  · rw [if_pos (openB_no h)]; simp
theorem atL_inj {x y : At} (hx : AtFit x) (hy : AtFit y) (h : sealed (atL x) = sealed (atL y)) : x = y := by
  have e : atL x = atL y := by rw [← take_sealed x, ← take_sealed y, h]
  rw [← rdP_atL hx, ← rdP_atL hy, e]
end Go.Proofs.YtlejmpinfbmccaaGreatDoor
