/- Devices as lists: words, stores that wait, what a flush, a fence, a crash make of them. No program stands here. -/
import Derived.Test.YtghppmgieljgiaaWordMath
namespace Go.Proofs.Ytghppmgieljgiaa

/-- A store that waits. -/
structure Pn where
  pos : Nat
  word : Nat
  fl : Bool
/-- Words with stores laid over them. -/
def lay (K : List Nat) (L : List Pn) : List Nat := L.foldl (fun K p => K.set p.pos p.word) K
theorem lay_nil (K : List Nat) : lay K [] = K := rfl
theorem lay_cons (K : List Nat) (p : Pn) (L : List Pn) : lay K (p :: L) = lay (K.set p.pos p.word) L := rfl
theorem lay_append (K : List Nat) (L M : List Pn) : lay K (L ++ M) = lay (lay K L) M := by unfold lay; rw [List.foldl_append]
theorem lay_snoc (K : List Nat) (L : List Pn) (p : Pn) : lay K (L ++ [p]) = (lay K L).set p.pos p.word := by rw [lay_append]; rfl
theorem lay_length (L : List Pn) : ∀ K : List Nat, (lay K L).length = K.length := by
  induction L with
  | nil => intro K; rfl
  | cons p r ih => intro K; rw [lay_cons, ih, List.length_set]
theorem lay_set (L : List Pn) : ∀ (K : List Nat) (a v : Nat), (∀ q ∈ L, q.pos ≠ a) → lay (K.set a v) L = (lay K L).set a v := by
  induction L with
  | nil => intro K a v _; rfl
  | cons p r ih =>
    intro K a v h
    rw [lay_cons, lay_cons, List.set_comm _ _ (by have := h p (by simp); omega), ih _ _ _ fun q hq => h q (by simp [hq])]
theorem getD_set_eq (K : List Nat) (a v : Nat) (h : a < K.length) : (K.set a v).getD a 0 = v := by
  simp [List.getD_eq_getElem?_getD, h]
theorem getD_set_ne (K : List Nat) (a b v : Nat) (h : a ≠ b) : (K.set a v).getD b 0 = K.getD b 0 := by
  simp [List.getD_eq_getElem?_getD, List.getElem?_set_ne h]
/-- A word behind stores is what it was, or what some store of it says. -/
theorem lay_word (L : List Pn) : ∀ (K : List Nat) (a : Nat), a < K.length → (lay K L).getD a 0 = K.getD a 0 ∨ ∃ p ∈ L, p.pos = a ∧ p.word = (lay K L).getD a 0 := by
  induction L with
  | nil => intro K a _; exact .inl rfl
  | cons p r ih =>
    intro K a ha
    rw [lay_cons]
    rcases ih (K.set p.pos p.word) a (by rw [List.length_set]; exact ha) with h | ⟨q, hq, h1, h2⟩
    · by_cases hp : p.pos = a
      · refine .inr ⟨p, by simp, hp, ?_⟩
        rw [h, hp, getD_set_eq _ _ _ ha]
      · exact .inl (by rw [h, getD_set_ne _ _ _ _ hp])
    · exact .inr ⟨q, by simp [hq], h1, h2⟩
theorem lay_far (L : List Pn) (K : List Nat) (a : Nat) (h : ∀ q ∈ L, q.pos ≠ a) : (lay K L).getD a 0 = K.getD a 0 := by
  induction L generalizing K with
  | nil => rfl
  | cons p r ih => rw [lay_cons, ih _ fun q hq => h q (by simp [hq]), getD_set_ne _ _ _ _ (h p (by simp))]

/-- Those stores of which st tells. -/
def keeps (st : Nat → Pn → Bool) (L : List Pn) : List Pn := (L.zipIdx.filter fun x => st x.2 x.1).map (·.1)
def leaves (st : Nat → Pn → Bool) (L : List Pn) : List Pn := keeps (fun k p => !st k p) L
theorem keeps_nil (st : Nat → Pn → Bool) : keeps st [] = [] := rfl
theorem keeps_snoc (st : Nat → Pn → Bool) (L : List Pn) (p : Pn) : keeps st (L ++ [p]) = keeps st L ++ (if st L.length p then [p] else []) := by
  unfold keeps
  rw [List.zipIdx_append, List.filter_append, List.map_append]
  congr 1
  by_cases h : st L.length p = true <;> simp [h]
theorem keeps_sub (st : Nat → Pn → Bool) (L : List Pn) : ∀ p ∈ keeps st L, p ∈ L := by
  intro p hp
  unfold keeps at hp
  rw [List.mem_map] at hp
  obtain ⟨x, hx, rfl⟩ := hp
  rw [List.mem_filter] at hx
  exact (List.mem_zipIdx' (x := x.1) (i := x.2) hx.1).2 ▸ List.getElem_mem _
theorem keeps_all (st : Nat → Pn → Bool) (L : List Pn) (h : ∀ k, k < L.length → ∀ p, st k p = true) : keeps st L = L := by
  unfold keeps
  rw [List.filter_eq_self.2, List.zipIdx_map_fst]
  intro x hx
  exact h x.2 (List.mem_zipIdx' (x := x.1) (i := x.2) hx).1 _
theorem keeps_length (st : Nat → Pn → Bool) (L : List Pn) : (keeps st L).length ≤ L.length := by
  unfold keeps
  rw [List.length_map]
  exact Nat.le_trans (List.length_filter_le _ _) (by simp)
theorem keeps_plain (f : Pn → Bool) (L : List Pn) : keeps (fun _ p => f p) L = L.filter f := by
  unfold keeps
  have h : (L.zipIdx.filter fun x => f x.1).map (·.1) = (L.zipIdx.map (·.1)).filter f := by rw [List.filter_map]; rfl
  rw [h, List.zipIdx_map_fst]
theorem take_succ_getD {α : Type} (L : List α) (d : α) (k : Nat) (h : k < L.length) : L.take (k + 1) = L.take k ++ [L.getD k d] := by
  rw [List.take_succ_eq_append_getElem h]; simp [List.getD_eq_getElem?_getD, h]
def p0 : Pn := ⟨0, 0, false⟩
theorem keeps_take (st : Nat → Pn → Bool) (L : List Pn) (k : Nat) (h : k < L.length) :
    keeps st (L.take (k + 1)) = keeps st (L.take k) ++ (if st k (L.getD k p0) then [L.getD k p0] else []) := by
  rw [take_succ_getD L p0 k h, keeps_snoc, List.length_take, Nat.min_eq_left (by omega)]
theorem leaves_take (st : Nat → Pn → Bool) (L : List Pn) (k : Nat) (h : k < L.length) :
    leaves st (L.take (k + 1)) = leaves st (L.take k) ++ (if st k (L.getD k p0) then [] else [L.getD k p0]) := by
  unfold leaves
  rw [keeps_take _ _ _ h]
  cases st k (L.getD k p0) <;> rfl
theorem leaves_take_length (st : Nat → Pn → Bool) (L : List Pn) (k : Nat) : (leaves st (L.take k)).length ≤ k := by
  have := keeps_length (fun k p => !st k p) (L.take k)
  unfold leaves
  rw [List.length_take] at this
  omega

/-- What a flush makes of the row. -/
def flushP (line : Int) (p : Pn) : Pn := ⟨p.pos, p.word, p.fl || decide (((p.pos / 8 : Nat) : Int) = line)⟩
def flushL (line : Int) (L : List Pn) : List Pn := L.map (flushP line)
theorem flushL_length (line : Int) (L : List Pn) : (flushL line L).length = L.length := by simp [flushL]
theorem flushL_getD (line : Int) (L : List Pn) (k : Nat) (h : k < L.length) : (flushL line L).getD k p0 = flushP line (L.getD k p0) := by
  simp [flushL, List.getD_eq_getElem?_getD, h]
theorem lay_flush (line : Int) (L : List Pn) : ∀ K, lay K (flushL line L) = lay K L := by
  induction L with
  | nil => intro K; rfl
  | cons p r ih => intro K; exact ih _

/-- What is true of a device: the values are the kept ones with all that waits laid over them; stores are to words that there are; of one word's stores those that are flushed come first. -/
structure Inv (K S : List Nat) (L : List Pn) : Prop where
  seen : S = lay K L
  pos : ∀ p ∈ L, p.pos < K.length
  first : L.Pairwise fun p q => p.pos = q.pos → q.fl = true → p.fl = true
theorem Inv.start (K : List Nat) : Inv K K [] := ⟨rfl, by simp, by simp⟩
theorem Inv.len {K S : List Nat} {L : List Pn} (h : Inv K S L) : S.length = K.length := by rw [h.seen, lay_length]
theorem Inv.store {K S : List Nat} {L : List Pn} (h : Inv K S L) (a v : Nat) (ha : a < K.length) : Inv K (S.set a v) (L ++ [⟨a, v, false⟩]) := by
  refine ⟨by rw [lay_snoc, ← h.seen], fun p hp => ?_, ?_⟩
  · rw [List.mem_append] at hp
    rcases hp with hp | hp
    · exact h.pos p hp
    · simp at hp; subst hp; exact ha
  · rw [List.pairwise_append]
    refine ⟨h.first, by simp, fun p _ q hq => ?_⟩
    simp at hq
    subst hq
    intro _ h2
    cases h2
theorem Inv.flush {K S : List Nat} {L : List Pn} (h : Inv K S L) (line : Int) : Inv K S (flushL line L) := by
  refine ⟨by rw [lay_flush]; exact h.seen, fun p hp => ?_, ?_⟩
  · unfold flushL at hp
    rw [List.mem_map] at hp
    obtain ⟨q, hq, rfl⟩ := hp
    exact h.pos q hq
  · unfold flushL
    rw [List.pairwise_map]
    refine h.first.imp fun {p q} hpq h1 h2 => ?_
    unfold flushP at *
    simp only [Bool.or_eq_true, decide_eq_true_eq] at *
    rcases h2 with h2 | h2
    · exact .inl (hpq h1 h2)
    · exact .inr (by rw [h1]; exact h2)
theorem lay_fence (L : List Pn) : ∀ K : List Nat, L.Pairwise (fun p q => p.pos = q.pos → q.fl = true → p.fl = true) → lay K L = lay (lay K (L.filter (·.fl))) (L.filter (!·.fl)) := by
  induction L with
  | nil => intro K _; rfl
  | cons p r ih =>
    intro K h
    rw [List.pairwise_cons] at h
    rw [lay_cons, ih _ h.2]
    cases hp : p.fl
    · rw [List.filter_cons_of_neg (by simp [hp]), List.filter_cons_of_pos (by simp [hp]), lay_cons, lay_set]
      intro q hq
      rw [List.mem_filter] at hq
      intro he
      have := h.1 q hq.1 he.symm hq.2
      rw [hp] at this
      cases this
    · rw [List.filter_cons_of_pos (by simp [hp]), List.filter_cons_of_neg (by simp [hp]), lay_cons]
def stF : Nat → Pn → Bool := fun _ p => p.fl
theorem keeps_stF (L : List Pn) : keeps stF L = L.filter (·.fl) := keeps_plain _ _
theorem leaves_stF (L : List Pn) : leaves stF L = L.filter (!·.fl) := keeps_plain (fun p => !p.fl) L
theorem Inv.fence {K S : List Nat} {L : List Pn} (h : Inv K S L) : Inv (lay K (keeps stF L)) S (leaves stF L) := by
  refine ⟨by rw [keeps_stF, leaves_stF, ← lay_fence L K h.first]; exact h.seen, fun p hp => ?_, ?_⟩
  · rw [lay_length]
    exact h.pos p (keeps_sub _ _ p hp)
  · rw [leaves_stF]
    exact h.first.filter _
/-- Which stores a crash keeps. -/
def stC (keep : List Bool) : Nat → Pn → Bool := fun k _ => keep.getD k false
theorem getD_of_lt {α : Type} (L : List α) (d : α) (k : Nat) (h : k < L.length) : L.getD k d = L[k] := by simp [List.getD_eq_getElem?_getD, h]
theorem Inv.load {K S : List Nat} {L : List Pn} (h : Inv K S L) (p : Pn) (hp : p ∈ L) : p.pos < S.length := by rw [h.len]; exact h.pos p hp
end Go.Proofs.Ytghppmgieljgiaa
