/- What the laws say, of lists. -/
import Derived.Test.YtdioafoikcfhhaaPc
set_option linter.unusedSimpArgs false
set_option linter.unusedVariables false
set_option linter.unusedSimpArgs false
set_option linter.unusedVariables false
namespace Go.Proofs.Ytdioafoikcfhhaa
theorem may_atZ : amayB atZ = true := amay_of (by decide) mayB_acZ (by unfold defB; show (mayB acZ && (false || sameB acZ acZ)) = true; rw [mayB_acZ, sameB_self]; rfl) (by decide +kernel)
theorem may_chmX {c : Cr} {x : At} {k m : Nat} (h : amayB x = true) : amayB (chmX c x k m) = true :=
  may_lost (may_withAc (may_withBi h (Nat.mod_lt _ (by decide))) (may_ch (mayB_iff.1 (amay_parts h).2.1) m))
theorem may_chmA (c : Cr) (x : At) (k m : Nat) : amayB (chmA c x k m) = true := by
  unfold chmA
  cases hv : validB c x
  · exact may_atZ
  · cases ownsB c x
    · exact may_atZ
    · exact may_chmX (valid_parts hv).2
theorem may_choX {x : At} {k : Nat} {u g : Int} (h : amayB x = true) : amayB (choX x k u g) = true := by
  unfold choX
  split
  · exact may_goes (may_withId h _ _)
  · exact may_withId h _ _
theorem valid_cho {c : Cr} {x : At} {u g : Int} (h : choN c x u g = 0) : validB c x = true ∧ (idB u && idB g) = true ∧ ownsB c x = true ∧ leaveB c x u g = true := by
  unfold choN at h
  cases hv : validB c x
  · rw [hv] at h; simp at h
  · rw [hv] at h
    cases hi : (idB u && idB g)
    · rw [hi] at h; simp at h
    · rw [hi] at h
      cases ho : ownsB c x
      · rw [ho] at h; simp at h
      · rw [ho] at h
        cases hl : leaveB c x u g
        · rw [hl] at h; simp at h
        · exact ⟨rfl, rfl, rfl, rfl⟩
theorem may_choA (c : Cr) (x : At) (k : Nat) (u g : Int) : amayB (choA c x k u g) = true := by
  unfold choA
  split
  · rename_i h
    exact may_choX (valid_parts (valid_cho h).1).2
  · exact may_atZ
theorem valid_acl {c : Cr} {x : At} {k wh : Nat} {l : Ac} (h : aclN c x k wh l = 0) : validB c x = true ∧ (1 ≤ wh ∧ wh ≤ 3) ∧ ownsB c x = true ∧ (wh = 1 ∨ k = 2) ∧ (wh = 3 ∨ mayB l = true) := by
  unfold aclN at h
  cases hv : validB c x
  · rw [hv] at h; simp at h
  · rw [hv] at h
    cases hi : (decide (1 ≤ wh) && decide (wh ≤ 3))
    · rw [hi] at h; simp at h
    · rw [hi] at h
      cases ho : ownsB c x
      · rw [ho] at h; simp at h
      · rw [ho] at h
        cases hk : (decide (wh = 1) || decide (k = 2))
        · rw [hk] at h; simp at h
        · rw [hk] at h
          cases hl : (decide (wh = 3) || mayB l)
          · rw [hl] at h; simp at h
          · rw [Bool.and_eq_true, decide_eq_true_eq, decide_eq_true_eq] at hi
            rw [Bool.or_eq_true, decide_eq_true_eq, decide_eq_true_eq] at hk
            rw [Bool.or_eq_true, decide_eq_true_eq] at hl
            exact ⟨rfl, hi, rfl, hk, hl⟩
theorem may_aclX {c : Cr} {x : At} {k wh : Nat} {l : Ac} (h : amayB x = true) (hl : wh = 3 ∨ mayB l = true) : amayB (aclX c x k wh l) = true := by
  unfold aclX
  split
  · rename_i h1
    exact may_lost (may_withAc h (hl.elim (fun h2 => absurd h2 (by omega)) id))
  · split
    · rename_i h1 h2
      exact may_withDf h (hl.elim (fun h3 => absurd h3 (by omega)) id)
    · exact may_noDf h
theorem may_aclA (c : Cr) (x : At) (k wh : Nat) (l : Ac) : amayB (aclA c x k wh l) = true := by
  unfold aclA
  split
  · rename_i h
    obtain ⟨h1, _, _, _, h2⟩ := valid_acl h
    exact may_aclX (valid_parts h1).2 h2
  · exact may_atZ
theorem may_wriA (c : Cr) (x : At) : amayB (wriA c x) = true := by
  unfold wriA
  cases hv : validB c x
  · exact may_atZ
  · show amayB (if c.ui = 0 then x else goesA x) = true
    split
    · exact (valid_parts hv).2
    · exact may_goes (valid_parts hv).2
theorem ks_may {x : At} (h : amayB x = true) : Ks x := fun k q hk => by
  obtain ⟨_, _, _, _, h5⟩ := amay_parts h
  have := (keyB_iff.1 ((xsB_iff.1 h5).1.ky k q (List.getElem?_eq_some_iff.1 hk).1 hk)).2.1
  omega
/- what a mode turns -/
theorem mask_five : ∀ m < 8, (offN m 2) &&& 5 = m &&& 5 ∧ offN (offN m 2) m = 0 ∧ offN m m = 0 := by decide
theorem chA_back {x : Ac} (h : mayB x = true) (m : Nat) : chA (chA x m) (bitsN x) = x := by
  have hm := mayB_iff.1 h
  have h1 := hm.ow
  have h2 := hm.gr
  have h3 := hm.ot
  have h4 := hm.ms
  obtain ⟨ow, gr, ot, us, gs, b, ms⟩ := x
  simp only at h1 h2 h3 h4
  cases b
  · show (⟨_, _, _, _, _, _, _⟩ : Ac) = _
    have e1 : bitsN ⟨ow, gr, ot, us, gs, false, ms⟩ = ow % 8 * 64 + gr % 8 * 8 + ot % 8 := rfl
    simp only [chA, e1, Bool.false_eq_true, if_false]
    congr 1 <;> omega
  · have e1 : bitsN ⟨ow, gr, ot, us, gs, true, ms⟩ = ow % 8 * 64 + ms % 8 * 8 + ot % 8 := rfl
    simp only [chA, e1, if_true]
    congr 1 <;> omega
theorem lost_bi (c : Cr) (x : At) (k : Nat) : (lostA c x k).bi = x.bi ∨ (lostA c x k).bi = offN x.bi 2 := by
  unfold lostA
  split
  · exact .inr rfl
  · exact .inl rfl
theorem lost_same (c : Cr) (x : At) (k b : Nat) : withBi (lostA c x k) b = withBi x b := by
  unfold lostA
  split <;> rfl
theorem lost_ac (c : Cr) (x : At) (k : Nat) : (lostA c x k).ac = x.ac := by
  unfold lostA
  split <;> rfl
theorem chm_facts {c : Cr} {x : At} {k m : Nat} (h : amayB x = true) : (chmX c x k m).bi &&& 5 = (m / 512 % 8) &&& 5 ∧ offN (chmX c x k m).bi (m / 512 % 8) = 0 ∧ bitsN (chmX c x k m).ac = m % 512 ∧ withAc (withBi (chmX c x k m) x.bi) (chA (chmX c x k m).ac (bitsN x.ac)) = x := by
  obtain ⟨e1, e2, e3⟩ := mask_five (m / 512 % 8) (Nat.mod_lt _ (by decide))
  have hb := lost_bi c (withAc (withBi x (m / 512 % 8)) (chA x.ac m)) k
  have ha : (chmX c x k m).ac = chA x.ac m := lost_ac _ _ _
  refine ⟨?_, ?_, by rw [ha]; exact bits_ch _ _, ?_⟩
  · rcases hb with hb | hb
    · exact congrArg (· &&& 5) hb
    · exact (congrArg (· &&& 5) hb).trans e1
  · rcases hb with hb | hb
    · exact (congrArg (offN · _) hb).trans e3
    · exact (congrArg (offN · _) hb).trans e2
  · rw [ha, chA_back (amay_parts h).2.1]
    unfold chmX
    rw [lost_same]
    rfl
/- what another owner turns -/
theorem goes_facts {x : At} (h : x.bi < 8) : offN (goesN x) x.bi = 0 ∧ goesN x &&& 1 = x.bi &&& 1 := by
  unfold goesN
  split
  · exact ⟨(off_six x.bi h).1, (off_six x.bi h).2.1⟩
  · exact ⟨(off_four x.bi h).1, (off_four x.bi h).2.1⟩
theorem cho_facts {x : At} {k : Nat} {u g : Int} (h : amayB x = true) : offN (choX x k u g).bi x.bi = 0 ∧ (choX x k u g).bi &&& 1 = x.bi &&& 1 ∧ (choX x k u g).ui = becN u x.ui ∧ (choX x k u g).gi = becN g x.gi ∧ withBi (withId (choX x k u g) x.ui x.gi) x.bi = x := by
  have h8 := may8 h
  unfold choX
  split
  · exact ⟨(goes_facts (x := withId x (becN u x.ui) (becN g x.gi)) h8).1, (goes_facts (x := withId x (becN u x.ui) (becN g x.gi)) h8).2, rfl, rfl, rfl⟩
  · exact ⟨off_self x.bi h8, rfl, rfl, rfl, rfl⟩
/- what another list turns -/
theorem acl1_facts {c : Cr} {x : At} {k : Nat} {l : Ac} (h : amayB x = true) : offN (aclX c x k 1 l).bi x.bi = 0 ∧ (aclX c x k 1 l).bi &&& 5 = x.bi &&& 5 ∧ (aclX c x k 1 l).ac = l ∧ withBi (withAc (aclX c x k 1 l) x.ac) x.bi = x := by
  obtain ⟨e1, e2, e3⟩ := mask_five x.bi (may8 h)
  have hb := lost_bi c (withAc x l) k
  have ha : (aclX c x k 1 l).ac = l := lost_ac _ _ _
  refine ⟨?_, ?_, ha, ?_⟩
  · rcases hb with hb | hb
    · exact (congrArg (offN · _) hb).trans e3
    · exact (congrArg (offN · _) hb).trans e2
  · rcases hb with hb | hb
    · exact congrArg (· &&& 5) hb
    · exact (congrArg (· &&& 5) hb).trans e1
  · show withBi (withAc (lostA c (withAc x l) k) x.ac) x.bi = x
    unfold lostA
    split <;> rfl
/- what is left of the set bits -/
theorem clean_goes {x : At} (h : x.bi < 8) : cleanB (goesA x) = true := by
  unfold cleanB
  show (decide (goesN x &&& 4 = 0) && (decide (goesN x &&& 2 = 0) || decide (cls x.ac &&& 1 = 0))) = true
  unfold goesN
  split
  · rw [decide_eq_true (off_six x.bi h).2.2.2.1, decide_eq_true (off_six x.bi h).2.2.2.2]
    rfl
  · rename_i hc
    rw [decide_eq_true (off_four x.bi h).2.2.2]
    have h2 : cls x.ac &&& 1 = 0 := by rw [Nat.and_one_is_mod]; omega
    rw [decide_eq_true h2, Bool.or_true]
    rfl
theorem goes_again {x : At} (h : x.bi < 8) : goesA (goesA x) = goesA x := by
  obtain ⟨e1, e2⟩ := off_again x.bi h
  show withBi (goesA x) (goesN (goesA x)) = goesA x
  have e : goesN (goesA x) = goesN x := by
    show (if cls x.ac % 2 = 1 then offN (offN (goesN x) 4) 2 else offN (goesN x) 4) = goesN x
    unfold goesN
    by_cases hc : cls x.ac % 2 = 1
    · rw [if_pos hc, if_pos hc]; exact e2
    · rw [if_neg hc, if_neg hc]; exact e1
  rw [e]
  rfl
theorem wri_again {c : Cr} {x : At} (hc : c.gs.length ≤ 4) (h : amayB x = true) : wriA c (wriA c x) = wriA c x := by
  have hv := valid_of hc h
  have e : wriA c x = if c.ui = 0 then x else goesA x := by unfold wriA; rw [hv]; rfl
  have hv2 := valid_of hc (may_wriA c x)
  have e2 : wriA c (wriA c x) = if c.ui = 0 then wriA c x else goesA (wriA c x) := by
    show (if validB c (wriA c x) then (if c.ui = 0 then wriA c x else goesA (wriA c x)) else atZ) = _
    rw [hv2]; rfl
  rw [e2]
  by_cases h0 : c.ui = 0
  · rw [if_pos h0]
  · rw [if_neg h0, e, if_neg h0]
    exact goes_again (may8 h)
/- the directory's sticky bit -/
theorem sticky_bits : ∀ m < 8, (offN m 1 < 8 ∧ offN m 1 &&& 1 = 0) ∧ (m ||| 1 < 8 ∧ (m ||| 1) &&& 1 = 1) := by decide
theorem rem_free {c : Cr} {d x : At} (hc : c.gs.length ≤ 4) (hd : amayB d = true) (hx : amayB x = true) : remB c (withBi d (offN d.bi 1)) x = true := by
  obtain ⟨⟨h1, h2⟩, _⟩ := sticky_bits d.bi (may8 hd)
  unfold remB
  rw [valid_of hc (may_withBi hd h1), valid_of hc hx]
  show (true && (true && (_ || (_ || decide (offN d.bi 1 &&& 1 = 0))))) = true
  rw [decide_eq_true h2]
  simp
theorem rem_held {c : Cr} {d x : At} (hc : c.gs.length ≤ 4) (hd : amayB d = true) (hx : amayB x = true) : remB c (withBi d (d.bi ||| 1)) x = (decide (c.ui = 0) || (decide (c.ui = x.ui) || decide (c.ui = d.ui))) := by
  obtain ⟨_, h1, h2⟩ := sticky_bits d.bi (may8 hd)
  unfold remB
  rw [valid_of hc (may_withBi hd h1), valid_of hc hx]
  show (true && (true && ((decide (c.ui = 0) || decide (c.ui = x.ui)) || ((decide (c.ui = 0) || decide (c.ui = d.ui)) || decide ((d.bi ||| 1) &&& 1 = 0))))) = _
  rw [h2]
  cases decide (c.ui = 0) <;> cases decide (c.ui = x.ui) <;> cases decide (c.ui = d.ui) <;> rfl
end Go.Proofs.Ytdioafoikcfhhaa
