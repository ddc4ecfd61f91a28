/- What is flushed and fenced stays. No program stands here. -/
import Derived.Test.YtghppmgieljgiaaDoes
namespace Go.Proofs.Ytghppmgieljgiaa
/-- All stores to words ahead of line k are flushed. -/
structure Flushed (K S : List Nat) (L : List Pn) (N k : Nat) : Prop where
  inv : Inv K S L
  few : L.length ≤ N
  fl : ∀ p ∈ L, p.pos / 8 < k → p.fl = true
theorem Flushed.start {K S : List Nat} {L : List Pn} {N : Nat} (h : Inv K S L) (hN : L.length ≤ N) : Flushed K S L N 0 := ⟨h, hN, fun _ _ h => absurd h (by omega)⟩
theorem Flushed.step {K S : List Nat} {L : List Pn} {N k : Nat} (h : Flushed K S L N k) : Flushed K S (flushL k L) N (k + 1) := by
  refine ⟨h.inv.flush k, by rw [flushL_length]; exact h.few, fun p hp hk => ?_⟩
  unfold flushL at hp
  rw [List.mem_map] at hp
  obtain ⟨q, hq, rfl⟩ := hp
  show (q.fl || decide (((q.pos / 8 : Nat) : Int) = (k : Int))) = true
  have hk' : q.pos / 8 < k + 1 := hk
  by_cases h1 : q.pos / 8 < k
  · rw [h.fl q hq h1]; rfl
  · rw [decide_eq_true (by omega), Bool.or_true]
theorem Flushed.all {K S : List Nat} {L : List Pn} {N n : Nat} (h : Flushed K S L N n) (hn : K.length = 8 * n) : lay K (keeps stF L) = S ∧ leaves stF L = [] := by
  have hf : ∀ p ∈ L, p.fl = true := fun p hp => h.fl p hp (by have := h.inv.pos p hp; omega)
  rw [keeps_stF, leaves_stF]
  constructor
  · rw [List.filter_eq_self.2 (fun p hp => hf p hp), ← h.inv.seen]
  · rw [List.filter_eq_nil_iff]
    intro p hp
    simp [hf p hp]
/-- The word a is v, is kept as v, and no store to it waits. -/
structure Safe (m : Mo) (a v : Nat) : Prop where
  lt : a < m.K.length
  seen : m.S.getD a 0 = v
  kept : m.K.getD a 0 = v
  far : ∀ p ∈ m.L, p.pos ≠ a
theorem Safe.lay {m : Mo} {a v : Nat} (h : Safe m a v) (st : Nat → Pn → Bool) : (lay m.K (keeps st m.L)).getD a 0 = v := by
  rw [lay_far _ _ _ fun q hq => h.far q (keeps_sub _ _ q hq)]
  exact h.kept
theorem Safe.step {m : Mo} {a v : Nat} (h : Safe m a v) (s : St) (hs : ¬ (s.act = 0 ∧ s.pos = a)) : Safe (m.step s) a v := by
  unfold Mo.step
  split
  · rename_i h0
    split
    · rename_i hp
      have hne : s.pos.toNat ≠ a := fun e => hs ⟨h0, by omega⟩
      refine ⟨h.lt, ?_, h.kept, fun p hp => ?_⟩
      · show (m.S.set s.pos.toNat s.word).getD a 0 = v
        rw [getD_set_ne _ _ _ _ hne]; exact h.seen
      · have hp' : p ∈ m.L ++ [⟨s.pos.toNat, s.word, false⟩] := hp
        rw [List.mem_append] at hp'
        rcases hp' with hp' | hp'
        · exact h.far p hp'
        · simp at hp'; subst hp'; exact hne
    · exact h
  · split
    · split
      · refine ⟨h.lt, h.seen, h.kept, fun p hp => ?_⟩
        have hp' : p ∈ flushL s.pos.toNat m.L := hp
        unfold flushL at hp'
        rw [List.mem_map] at hp'
        obtain ⟨q, hq, rfl⟩ := hp'
        exact h.far q hq
      · exact h
    · split
      · refine ⟨?_, h.seen, h.lay stF, fun p hp => h.far p (keeps_sub (fun k p => !stF k p) m.L p hp)⟩
        show a < (_root_.Go.Proofs.Ytghppmgieljgiaa.lay m.K (keeps stF m.L)).length
        rw [lay_length]; exact h.lt
      · split
        · refine ⟨?_, h.lay _, h.lay _, fun p hp => ?_⟩
          · show a < (_root_.Go.Proofs.Ytghppmgieljgiaa.lay m.K (keeps (stC s.keep) m.L)).length
            rw [lay_length]; exact h.lt
          · have hp' : p ∈ ([] : List Pn) := hp
            cases hp'
        · exact h
/-- The same device, told the same steps. -/
theorem crash_all (K : List Nat) (L : List Pn) : lay K (keeps (stC (List.replicate L.length true)) L) = lay K L := by
  rw [keeps_all]
  intro k hk p
  unfold stC
  simp [List.getD_eq_getElem?_getD, hk]
/-- Behind a crash each word is what was kept, or what some store of it said. -/
theorem crash_word (K : List Nat) (L : List Pn) (st : Nat → Pn → Bool) (a : Nat) (ha : a < K.length) :
    (lay K (keeps st L)).getD a 0 = K.getD a 0 ∨ ∃ i, i < L.length ∧ (L.getD i p0).pos = a ∧ (L.getD i p0).word = (lay K (keeps st L)).getD a 0 := by
  rcases lay_word (keeps st L) K a ha with h | ⟨p, hp, h1, h2⟩
  · exact .inl h
  · obtain ⟨i, hi, he⟩ := List.getElem_of_mem (keeps_sub _ _ p hp)
    refine .inr ⟨i, hi, ?_⟩
    rw [getD_of_lt _ _ _ hi, he]
    exact ⟨h1, h2⟩
theorem Mo.step_len (m : Mo) (s : St) : (m.step s).K.length = m.K.length := by
  unfold Mo.step
  split
  · split <;> rfl
  · split
    · split <;> rfl
    · split
      · exact lay_length _ _
      · split
        · exact lay_length _ _
        · rfl
end Go.Proofs.Ytghppmgieljgiaa
