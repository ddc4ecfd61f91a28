/- Which words the document reads as which attributes: as they are decoded. -/
import Derived.Test.YtlejmpinfbmccaaGreatDoorAlT
set_option linter.unusedSimpArgs false
set_option linter.unusedVariables false
set_option linter.unusedSimpArgs false
set_option linter.unusedVariables false
namespace Go.Proofs.YtlejmpinfbmccaaGreatDoor
open Go.RowKit SumMath WordMath
theorem getD_take {l : List Nat} {n k : Nat} (h : k < n) : (l.take n).getD k 0 = l.getD k 0 := by
  rw [List.getD_eq_getElem?_getD, List.getD_eq_getElem?_getD, List.getElem?_take_of_lt h]
theorem whoL_take (l : List Nat) (g n : Nat) (hg : g + 2 ≤ 31) : whoL (l.take 31) g n = whoL l g n := by
  unfold whoL
  refine List.map_congr_left fun k hk => ?_
  have hk := List.mem_range.1 hk
  unfold whoK
  rw [getD_take (by omega)]
theorem rdAc_take (l : List Nat) (h g : Nat) (hh : h < 31) (hg : g + 4 ≤ 31) : rdAc (l.take 31) h g = rdAc l h g := by
  unfold rdAc
  rw [getD_take hh, whoL_take _ _ _ (by omega), whoL_take _ _ _ (by omega)]
theorem rdXp_take (l : List Nat) (h : Nat) (hh : h + 4 ≤ 31) : rdXp (l.take 31) h = rdXp l h := by
  unfold rdXp
  rw [wdA_one, wdA_one, wdA_two, wdA_two, getD_take (by omega), getD_take (by omega), getD_take (by omega), getD_take (by omega)]
/-- How many values there are. -/
def cntX (l : List Nat) : Nat := fld (l.getD 0 0) 4 4
/-- All lengths up to value k are such as words of texts can have. -/
def LensOk (l : List Nat) (k : Nat) : Prop := ∀ j, j < k → fld (l.getD (13 + 4 * j) 0) 0 8 ≤ 8 ∧ fld (l.getD (13 + 4 * j) 0) 8 8 ≤ 16
theorem rdP_take {l : List Nat} (hk : LensOk l (min (cntX l) 4)) : rdP (l.take 31) = rdAt l := by
  unfold rdP rdAt
  rw [getD_take (by decide), getD_take (by decide), rdAc_take _ _ _ (by decide) (by decide), rdAc_take _ _ _ (by decide) (by decide)]
  have e : xaL (l.take 31) 12 (fld (l.getD 0 0) 4 4) = (List.range (min (fld (l.getD 0 0) 4 4) 4)).map (rdX l) := by
    unfold xaL
    refine List.map_congr_left fun k hk' => ?_
    have hk' := List.mem_range.1 hk'
    obtain ⟨h1, h2⟩ := hk k hk'
    rw [rdXp_take _ _ (by omega), rdXp_eq _ _ h1 h2]
  rw [e]
/-- A length that no text has: no attributes. -/
theorem bad_len {l : List Nat} {k : Nat} (h1 : mkB l = true) (h2 : openB l = true) (hk : k < min (cntX l) 4) (h : 8 < fld (l.getD (13 + 4 * k) 0) 0 8 ∨ 16 < fld (l.getD (13 + 4 * k) 0) 8 8) : badA l = some 1 := by
  cases hb : (amayB (rdP (l.take 31)) && sameV (sealed (atL (rdP (l.take 31)))) l) with
  | false => exact badA_1 h1 h2 hb
  | true =>
    exfalso
    obtain ⟨hm, _, hs⟩ := dec_conv (badA_no h1 h2 hb)
    have e := attA_none (badA_no h1 h2 hb)
    obtain ⟨_, _, _, _, h5⟩ := amay_parts hm
    have h6 := (xsB_iff.1 h5).1
    have hx : (attA l).xs[k]? = some (rdXp (l.take 31) (12 + 4 * k)) := by
      rw [e]
      unfold rdP xaL
      show ((List.range (min (fld ((l.take 31).getD 0 0) 4 4) 4)).map fun k => rdXp (l.take 31) (12 + 4 * k))[k]? = _
      rw [getD_take (by decide)]
      rw [List.getElem?_map, List.getElem?_range (by unfold cntX at hk; exact hk)]
      rfl
    have hl := (List.getElem?_eq_some_iff.1 hx).1
    have hky := (keyB_iff.1 (h6.ky k _ hl hx)).2.1
    have hvl := h6.vl k _ hl hx
    obtain ⟨s1, s2⟩ := sizes_of hx hky hvl
    have ew : l.getD (13 + 4 * k) 0 = xaW (attA l).xs k 1 := by
      rw [← atL_13 (attA l) k (by omega), ← sealed_at (x := attA l) (by omega), hs]
    rw [ew, s1, s2] at h
    omega
/-- What the document makes of words that are marked and sealed. -/
theorem bad_rest {l : List Nat} (h1 : mkB l = true) (h2 : openB l = true) (hk : LensOk l (min (cntX l) 4)) :
    (amayB (rdAt l) = true ∧ sealed (atL (rdAt l)) = l ∧ badA l = none ∧ attA l = rdAt l) ∨ ((amayB (rdAt l) = false ∨ sealed (atL (rdAt l)) ≠ l) ∧ badA l = some 1) := by
  have e := rdP_take hk
  cases hb : (amayB (rdP (l.take 31)) && sameV (sealed (atL (rdP (l.take 31)))) l) with
  | false =>
    refine .inr ⟨?_, badA_1 h1 h2 hb⟩
    rw [e, Bool.and_eq_false_iff] at hb
    rcases hb with hb | hb
    · exact .inl hb
    · exact .inr (of_decide_eq_false hb)
  | true =>
    have hn := badA_no h1 h2 hb
    refine .inl ⟨?_, ?_, hn, by rw [attA_none hn, e]⟩
    · rw [e, Bool.and_eq_true] at hb; exact hb.1
    · rw [e, Bool.and_eq_true] at hb; exact of_decide_eq_true hb.2
theorem rdAt_num (l : List Nat) : ANum (rdAt l) := by
  have h := rdP_num l
  exact ⟨h.ui, h.gi, h.ac, h.df⟩
/-- The attributes with the first k values. -/
def rdK (l : List Nat) (k : Nat) : At := ⟨fld (l.getD 0 0) 0 3, fld (l.getD 1 0) 0 16, fld (l.getD 1 0) 16 16, rdAc l 2 4, decide (fld (l.getD 0 0) 3 1 = 1), rdAc l 3 8, (List.range k).map (rdX l)⟩
theorem rdK_all (l : List Nat) : rdK l (min (cntX l) 4) = rdAt l := rfl
theorem rdK_step (l : List Nat) (k : Nat) : (rdK l (k + 1)).xs = (rdK l k).xs ++ [rdX l k] := by
  show (List.range (k + 1)).map (rdX l) = (List.range k).map (rdX l) ++ [rdX l k]
  rw [List.range_succ, List.map_append]
  rfl
theorem rdK_len (l : List Nat) (k : Nat) : (rdK l k).xs.length = k := by simp [rdK]
theorem mk_word {l : List Nat} (h32 : l.length = 32) (hl : Wd l) : mkB l = decide (l.getD 0 0 / 4294967296 = 1096045650) := by
  unfold mkB
  rw [decide_eq_true h32, Bool.true_and]
  have := hl 0
  have e : fld (l.getD 0 0) 32 32 = l.getD 0 0 / 4294967296 := by
    unfold fld
    have h1 : l.getD 0 0 / 2 ^ 32 < 2 ^ 32 := by omega
    rw [Nat.mod_eq_of_lt h1]
  rw [e]
end Go.Proofs.YtlejmpinfbmccaaGreatDoor
