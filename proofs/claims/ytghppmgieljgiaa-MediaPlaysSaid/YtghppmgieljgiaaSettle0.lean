/- settle: those stores that stay tells of are made persistent, the others wait on. -/
import Derived.Test.YtghppmgieljgiaaMed2
import Derived.RegionTactic
import Derived.BigRegion
namespace Go.Proofs.Ytghppmgieljgiaa
open Go.RowKit
/-- The row that waits, known whole: n elements that read as M. -/
def PM (w : World) (A : Option Addr) (n : Nat) (M : List Pn) : Prop :=
  (A = none ∧ n = 0) ∨ ∃ gp cur, A = some ⟨gp, 0, none⟩ ∧ w.heap[gp]? = some (.cells cur 61 (0, 0)) ∧ n * 3 ≤ cur.size ∧ cur.toList.take (n * 3) = pv M
/-- Where a settling stands behind k stores. -/
structure SetI (w wr : World) (g gk ck gs cs : Nat) (A : Option Addr) (cp : Nat) (F : Nat → Prop) (K S : List Nat) (L : List Pn) (st : Nat → Pn → Bool) (k : Nat) : Prop where
  hg : wr.heap[g]? = some (.cells #[.slice (some ⟨gk, 0, none⟩) K.length ck, .slice (some ⟨gs, 0, none⟩) S.length cs, .slice A L.length cp] 66 (0, 0))
  hk : Blkp 32 wr gk (lay K (keeps st (L.take k)))
  hs : Blkp 32 wr gs S
  hp : ∃ M, PM wr A L.length M ∧ M.length = L.length ∧ M.take (leaves st (L.take k)).length = leaves st (L.take k) ∧ M.drop k = L.drop k
  only : Only F w wr
theorem pm_of_own {w : World} {A : Option Addr} {cp : Nat} {L : List Pn} (h : OwnR w 61 3 A L.length cp (pv L)) : PM w A L.length L := by
  obtain ⟨_, h1, _, h2⟩ := h
  rcases h2 with ⟨h2, h3⟩ | ⟨g, cur, h2, h3, h4, h5⟩
  · exact .inl ⟨h2, by omega⟩
  · exact .inr ⟨g, cur, h2, h3, by omega, h5⟩
theorem pv_take (M : List Pn) : ∀ j, (pv M).take (j * 3) = pv (M.take j) := by
  induction M with
  | nil => intro j; simp [pv]
  | cons p r ih =>
    intro j
    cases j with
    | zero => simp [pv]
    | succ j =>
      rw [show (j + 1) * 3 = j * 3 + 1 + 1 + 1 by omega]
      simp only [pv, List.take_succ_cons, ih]
section
variable {w wr w2 : World} {g gk ck gs cs cp : Nat} {A : Option Addr} {K S : List Nat} {L : List Pn} {F : Nat → Prop} {st : Nat → Pn → Bool} {k : Nat}
theorem SetI.start (h : DevC w g gk ck gs cs A cp K S L) (n : Nat) : SetI w (w.drewN n) g gk ck gs cs A cp F K S L st 0 :=
  ⟨h.hg, h.hk, h.hs, ⟨L, pm_of_own h.hp, rfl, rfl, rfl⟩, (Only.refl F w).drewN n⟩
theorem drop_getD {M L : List Pn} (h : M.drop k = L.drop k) (_ : k < L.length) : M.getD k p0 = L.getD k p0 := by
  have := congrArg (fun l => l.getD 0 p0) h
  simpa [List.getD_eq_getElem?_getD] using this
/-- A store that is left. -/
theorem SetI.leave {gp : Nat} (h0 : DevC w g gk ck gs cs (some ⟨gp, 0, none⟩) cp K S L) (h : SetI w wr g gk ck gs cs (some ⟨gp, 0, none⟩) cp F K S L st k) (hk : k < L.length) (hs : st k (L.getD k p0) = false) {M : List Pn} (hM : M.length = L.length)
    (hM1 : M.take (leaves st (L.take k)).length = leaves st (L.take k)) (hM2 : M.drop k = L.drop k) {cur' : Array Value} (hg : w2.heap[gp]? = some (.cells cur' 61 (0, 0))) (hcs : L.length * 3 ≤ cur'.size)
    (hcur : cur'.toList.take (L.length * 3) = pv (M.set (leaves st (L.take k)).length (L.getD k p0))) (ho : Only (· = gp) wr w2) (hF : F gp) :
    (leaves st (L.take (k + 1))).length = (leaves st (L.take k)).length + 1 ∧ SetI w w2 g gk ck gs cs (some ⟨gp, 0, none⟩) cp F K S L st (k + 1) := by
  have hl := leaves_take st L k hk
  have hkk := keeps_take st L k hk
  rw [hs] at hl hkk
  simp only [Bool.false_eq_true, if_false, List.append_nil] at hl hkk
  have hjk := leaves_take_length st L k
  obtain ⟨n1, n2, n3⟩ := h0.gp_ne
  have b1 := lt_of_cells h.hg
  have b2 := h.hk.lt
  have b3 := h.hs.lt
  refine ⟨by rw [hl]; simp, ?_, ?_, ?_, ⟨_, .inr ⟨gp, cur', rfl, hg, hcs, hcur⟩, by rw [List.length_set]; exact hM, ?_, ?_⟩, ?_⟩
  · exact (ho.block g b1 n1).trans h.hg
  · rw [hkk]
    obtain ⟨c, hc, ht⟩ := h.hk
    exact ⟨c, (ho.block gk b2 n2).trans hc, ht⟩
  · obtain ⟨c, hc, ht⟩ := h.hs
    exact ⟨c, (ho.block gs b3 n3).trans hc, ht⟩
  · generalize hj : (leaves st (L.take k)).length = j at *
    rw [hl, List.length_append, hj, List.length_singleton, take_succ_getD _ p0 j (by rw [List.length_set]; omega), List.take_set_of_le (by omega), hM1]
    congr 2
    simp [List.getD_eq_getElem?_getD, show j < M.length by omega]
  · rw [List.drop_set_of_lt (by omega), show k + 1 = k + 1 by rfl, ← List.drop_drop, ← List.drop_drop, hM2]
  · exact h.only.trans ho fun i hi => .inl (by rw [hi]; exact hF)
/-- A store that stays. -/
theorem SetI.stay (h0 : DevC w g gk ck gs cs A cp K S L) (h : SetI w wr g gk ck gs cs A cp F K S L st k) (hk : k < L.length) (hs : st k (L.getD k p0) = true)
    (hg : Blkp 32 w2 gk ((lay K (keeps st (L.take k))).set (L.getD k p0).pos (L.getD k p0).word)) (ho : Only (· = gk) wr w2) (hF : F gk) :
    (leaves st (L.take (k + 1))).length = (leaves st (L.take k)).length ∧ SetI w w2 g gk ck gs cs A cp F K S L st (k + 1) := by
  have hl := leaves_take st L k hk
  have hkk := keeps_take st L k hk
  rw [hs] at hl hkk
  simp only [if_true, List.append_nil] at hl hkk
  have b1 := lt_of_cells h.hg
  have b3 := h.hs.lt
  obtain ⟨M, hM, hM0, hM1, hM2⟩ := h.hp
  refine ⟨by rw [hl], ?_, ?_, ?_, ⟨M, ?_, hM0, by rw [hl]; exact hM1, ?_⟩, ?_⟩
  · exact (ho.block g b1 h0.gk_ne).trans h.hg
  · rw [hkk, lay_snoc]
    exact hg
  · obtain ⟨c, hc, ht⟩ := h.hs
    exact ⟨c, (ho.block gs b3 (Ne.symm h0.ne)).trans hc, ht⟩
  · rcases hM with hM | ⟨gp, cur, rfl, h1, h2, h3⟩
    · exact .inl hM
    · exact .inr ⟨gp, cur, rfl, (ho.block gp (lt_of_cells h1) (Ne.symm h0.gp_ne.2.1)).trans h1, h2, h3⟩
  · rw [← List.drop_drop, ← List.drop_drop, hM2]
  · exact h.only.trans ho fun i hi => .inl (by rw [hi]; exact hF)
/-- The end: the row of the others is stored back. -/
theorem SetI.done (h0 : DevC w g gk ck gs cs A cp K S L) (h : SetI w wr g gk ck gs cs A cp F K S L st L.length) (hL : L.length ≤ maxLen) (hF : F g) :
    DevC (wr.setCell ⟨g, 2, none⟩ (.slice A (leaves st L).length L.length)) g gk ck gs cs A L.length (lay K (keeps st L)) S (leaves st L) ∧ Only F w (wr.setCell ⟨g, 2, none⟩ (.slice A (leaves st L).length L.length)) := by
  obtain ⟨M, hM, hM0, hM1, _⟩ := h.hp
  have hk := h.hk
  rw [List.take_length] at hM1 hk
  have hlen : (leaves st L).length ≤ L.length := by have := leaves_take_length st L L.length; rwa [List.take_length] at this
  refine ⟨⟨?_, ?_, ?_, ?_, h0.ne, by rw [lay_length]; exact h0.kc, h0.sc⟩, h.only.setCell (.inl hF) _⟩
  · rw [heap_setCell_same _ _ _ _ _ _ h.hg, lay_length]
    rfl
  · obtain ⟨c, hc, ht⟩ := hk
    exact ⟨c, (Below.heap_setCell _ _ _ _ (Ne.symm h0.gk_ne)).trans hc, ht⟩
  · obtain ⟨c, hc, ht⟩ := h.hs
    exact ⟨c, (Below.heap_setCell _ _ _ _ (Ne.symm h0.gs_ne)).trans hc, ht⟩
  · refine ⟨pv_length _, hlen, hL, ?_⟩
    rcases hM with ⟨h1, h2⟩ | ⟨gp, cur, rfl, h1, h2, h3⟩
    · exact .inl ⟨h1, h2⟩
    · refine .inr ⟨gp, cur, rfl, (Below.heap_setCell _ _ _ _ (Ne.symm h0.gp_ne.1)).trans h1, h2, ?_⟩
      have e : pv (leaves st L) = (pv M).take ((leaves st L).length * 3) := by rw [pv_take, hM1]
      rw [e, ← h3, List.take_take, Nat.min_eq_left (by omega)]
end
end Go.Proofs.Ytghppmgieljgiaa
