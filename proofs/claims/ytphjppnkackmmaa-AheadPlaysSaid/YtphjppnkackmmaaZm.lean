/- Tables of words for places, over lists that rise: put, done, loaded. No program stands here. -/
import Derived.Test.YtphjppnkackmmaaYm
set_option linter.unusedSimpArgs false
set_option linter.unusedVariables false
namespace Go.Proofs.Ytphjppnkackmmaa.SumMath
/-- The word for a place. -/
def lkT : List Re → Int → Option Nat
  | [], _ => none
  | e :: r, p => if e.pos = p then some e.word else lkT r p
def loadT (T : List Re) (p : Int) (b : Nat) : Nat := (lkT T p).getD b
def hasT (T : List Re) (p : Int) : Bool := (lkT T p).isSome
/-- A word for a place. -/
def putT : List Re → Re → List Re
  | [], x => [x]
  | e :: r, x => if e.pos < x.pos then e :: putT r x else if e.pos = x.pos then x :: r else x :: e :: r
def putsT (T L : List Re) : List Re := L.foldl putT T
def delT (T : List Re) (p : Int) : List Re := T.filter fun e => decide (e.pos ≠ p)
def Rise (T : List Re) : Prop := T.Pairwise fun x y => x.pos < y.pos
theorem Rise.nil : Rise [] := List.Pairwise.nil
theorem lk_put (T : List Re) (x : Re) (p : Int) : lkT (putT T x) p = if x.pos = p then some x.word else lkT T p := by
  induction T with
  | nil => rfl
  | cons e r ih =>
    unfold putT
    by_cases h1 : e.pos < x.pos
    · rw [if_pos h1]
      show (if e.pos = p then some e.word else lkT (putT r x) p) = _
      rw [ih]
      by_cases h2 : e.pos = p
      · rw [if_pos h2, if_neg (show ¬ x.pos = p by omega)]
        show some e.word = if e.pos = p then some e.word else lkT r p
        rw [if_pos h2]
      · rw [if_neg h2]
        show _ = if x.pos = p then some x.word else (if e.pos = p then some e.word else lkT r p)
        rw [if_neg h2]
    · rw [if_neg h1]
      by_cases h2 : e.pos = x.pos
      · rw [if_pos h2]
        show (if x.pos = p then some x.word else lkT r p) = if x.pos = p then some x.word else (if e.pos = p then some e.word else lkT r p)
        by_cases h3 : x.pos = p
        · rw [if_pos h3, if_pos h3]
        · rw [if_neg h3, if_neg h3, if_neg (by omega)]
      · rw [if_neg h2]
        rfl
theorem lk_del (T : List Re) (p q : Int) : lkT (delT T p) q = if p = q then none else lkT T q := by
  induction T with
  | nil => show none = _; split <;> rfl
  | cons e r ih =>
    by_cases h1 : e.pos = p
    · have e1 : delT (e :: r) p = delT r p := by unfold delT; rw [List.filter_cons_of_neg (by simp [h1])]
      rw [e1, ih]
      by_cases h2 : p = q
      · rw [if_pos h2, if_pos h2]
      · rw [if_neg h2, if_neg h2]
        show _ = if e.pos = q then some e.word else lkT r q
        rw [if_neg (by omega)]
    · have e1 : delT (e :: r) p = e :: delT r p := by unfold delT; rw [List.filter_cons_of_pos (by simp [h1])]
      rw [e1]
      show (if e.pos = q then some e.word else lkT (delT r p) q) = if p = q then none else (if e.pos = q then some e.word else lkT r q)
      rw [ih]
      by_cases h2 : e.pos = q
      · rw [if_pos h2, if_pos h2, if_neg (by omega)]
      · rw [if_neg h2, if_neg h2]
theorem has_put (T : List Re) (x : Re) (p : Int) : hasT (putT T x) p = (decide (x.pos = p) || hasT T p) := by
  unfold hasT
  rw [lk_put]
  by_cases h : x.pos = p <;> simp [h]
theorem has_del (T : List Re) (p q : Int) : hasT (delT T p) q = (decide (p ≠ q) && hasT T q) := by
  unfold hasT
  rw [lk_del]
  by_cases h : p = q <;> simp [h]
theorem load_put (T : List Re) (x : Re) (p : Int) (b : Nat) : loadT (putT T x) p b = if x.pos = p then x.word else loadT T p b := by
  unfold loadT
  rw [lk_put]
  split <;> rfl
theorem load_del (T : List Re) (p q : Int) (b : Nat) : loadT (delT T p) q b = if p = q then b else loadT T q b := by
  unfold loadT
  rw [lk_del]
  split <;> rfl
theorem mem_put {T : List Re} {x e : Re} (h : e ∈ putT T x) : e = x ∨ e ∈ T := by
  induction T with
  | nil => exact .inl (by simpa [putT] using h)
  | cons y r ih =>
    unfold putT at h
    split at h
    · rcases List.mem_cons.1 h with h | h
      · exact .inr (by rw [h]; simp)
      · rcases ih h with h | h
        · exact .inl h
        · exact .inr (List.mem_cons_of_mem _ h)
    · split at h
      · rcases List.mem_cons.1 h with h | h
        · exact .inl h
        · exact .inr (List.mem_cons_of_mem _ h)
      · rcases List.mem_cons.1 h with h | h
        · exact .inl h
        · exact .inr h
theorem Rise.put {T : List Re} (h : Rise T) (x : Re) : Rise (putT T x) := by
  induction T with
  | nil => exact List.pairwise_singleton _ _
  | cons e r ih =>
    unfold Rise at h
    rw [List.pairwise_cons] at h
    obtain ⟨h1, h2⟩ := h
    unfold putT
    by_cases c1 : e.pos < x.pos
    · rw [if_pos c1]
      refine List.pairwise_cons.2 ⟨fun y hy => ?_, ih h2⟩
      rcases mem_put hy with rfl | hy
      · exact c1
      · exact h1 y hy
    · rw [if_neg c1]
      by_cases c2 : e.pos = x.pos
      · rw [if_pos c2]
        exact List.pairwise_cons.2 ⟨fun y hy => by rw [← c2]; exact h1 y hy, h2⟩
      · rw [if_neg c2]
        refine List.pairwise_cons.2 ⟨fun y hy => ?_, List.pairwise_cons.2 ⟨h1, h2⟩⟩
        rcases List.mem_cons.1 hy with rfl | hy
        · omega
        · have := h1 y hy; omega
theorem Rise.puts {L : List Re} : ∀ {T : List Re}, Rise T → Rise (putsT T L) := by
  induction L with
  | nil => intro T h; exact h
  | cons x r ih => intro T h; exact ih (h.put x)
theorem Rise.del {T : List Re} (h : Rise T) (p : Int) : Rise (delT T p) := List.Pairwise.filter _ h
theorem puts_snoc (T L : List Re) (x : Re) : putsT T (L ++ [x]) = putT (putsT T L) x := by
  unfold putsT
  rw [List.foldl_append]
  rfl
theorem puts_nil (T : List Re) : putsT T [] = T := rfl
/-- Nothing stands there ahead of the first one. -/
theorem lk_below {T : List Re} {p : Int} (h : ∀ e ∈ T, p < e.pos) : lkT T p = none := by
  induction T with
  | nil => rfl
  | cons e r ih =>
    show (if e.pos = p then some e.word else lkT r p) = none
    rw [if_neg (by have := h e (by simp); omega)]
    exact ih fun y hy => h y (List.mem_cons_of_mem _ hy)
theorem mem_lk {T : List Re} (h : Rise T) {e : Re} (he : e ∈ T) : lkT T e.pos = some e.word := by
  induction T with
  | nil => cases he
  | cons y r ih =>
    unfold Rise at h
    rw [List.pairwise_cons] at h
    show (if y.pos = e.pos then some y.word else lkT r e.pos) = some e.word
    rcases List.mem_cons.1 he with rfl | he
    · rw [if_pos rfl]
    · rw [if_neg (by have := h.1 e he; omega)]
      exact ih h.2 he
theorem lk_mem {T : List Re} {p : Int} {w : Nat} (h : lkT T p = some w) : ⟨p, w⟩ ∈ T := by
  induction T with
  | nil => cases h
  | cons y r ih =>
    have h : (if y.pos = p then some y.word else lkT r p) = some w := h
    by_cases c : y.pos = p
    · rw [if_pos c] at h
      injection h with h2
      have e : y = ⟨p, w⟩ := by
        cases y
        simp only at c h2
        rw [c, h2]
      rw [e]
      exact List.mem_cons_self
    · rw [if_neg c] at h
      exact List.mem_cons_of_mem _ (ih h)
theorem len_put {T : List Re} (h : Rise T) (x : Re) : (putT T x).length = if hasT T x.pos then T.length else T.length + 1 := by
  induction T with
  | nil => rfl
  | cons e r ih =>
    unfold Rise at h
    rw [List.pairwise_cons] at h
    obtain ⟨h1, h2⟩ := h
    unfold putT
    have hh : hasT (e :: r) x.pos = (decide (e.pos = x.pos) || hasT r x.pos) := by
      unfold hasT
      show (if e.pos = x.pos then some e.word else lkT r x.pos).isSome = _
      by_cases c : e.pos = x.pos <;> simp [c]
    rw [hh]
    by_cases c1 : e.pos < x.pos
    · rw [if_pos c1, List.length_cons, ih h2, decide_eq_false (show ¬ e.pos = x.pos by omega), Bool.false_or]
      split <;> simp
    · rw [if_neg c1]
      by_cases c2 : e.pos = x.pos
      · rw [if_pos c2, decide_eq_true c2, Bool.true_or, if_pos rfl]; rfl
      · have hn : hasT r x.pos = false := by
          unfold hasT
          rw [lk_below fun y hy => by have := h1 y hy; omega]; rfl
        rw [if_neg c2, decide_eq_false c2, hn]
        simp
theorem has_mem {T : List Re} {e : Re} (he : e ∈ T) : hasT T e.pos = true := by
  unfold hasT
  induction T with
  | nil => cases he
  | cons y r ih =>
    show (if y.pos = e.pos then some y.word else lkT r e.pos).isSome = true
    by_cases c : y.pos = e.pos
    · rw [if_pos c]; rfl
    · rw [if_neg c]
      rcases List.mem_cons.1 he with rfl | he
      · exact absurd rfl c
      · exact ih he
theorem del_none {T : List Re} {p : Int} (h : hasT T p = false) : delT T p = T := by
  unfold delT
  refine List.filter_eq_self.2 fun e he => ?_
  rw [decide_eq_true_eq]
  rintro rfl
  rw [has_mem he] at h
  cases h
theorem len_del {T : List Re} (h : Rise T) {p : Int} (hp : hasT T p = true) : (delT T p).length + 1 = T.length := by
  induction T with
  | nil => cases hp
  | cons e r ih =>
    unfold Rise at h
    rw [List.pairwise_cons] at h
    obtain ⟨h1, h2⟩ := h
    by_cases c : e.pos = p
    · have e1 : delT (e :: r) p = delT r p := by unfold delT; rw [List.filter_cons_of_neg (by simp [c])]
      have hn : hasT r p = false := by
        unfold hasT
        rw [lk_below fun y hy => by have := h1 y hy; omega]; rfl
      rw [e1, del_none hn]; rfl
    · have e1 : delT (e :: r) p = e :: delT r p := by unfold delT; rw [List.filter_cons_of_pos (by simp [c])]
      have hh : hasT r p = true := by
        unfold hasT at hp ⊢
        have hp : (if e.pos = p then some e.word else lkT r p).isSome = true := hp
        rwa [if_neg c] at hp
      rw [e1, List.length_cons, ih h2 hh]; rfl
/-- Two that rise and hold the same are one. -/
theorem rise_ext {T U : List Re} (hT : Rise T) (hU : Rise U) (h : ∀ e, e ∈ T ↔ e ∈ U) : T = U := by
  induction T generalizing U with
  | nil =>
    cases U with
    | nil => rfl
    | cons u r => exact absurd ((h u).2 (by simp)) (by simp)
  | cons t r ih =>
    cases U with
    | nil => exact absurd ((h t).1 (by simp)) (by simp)
    | cons u s =>
      unfold Rise at hT hU
      rw [List.pairwise_cons] at hT hU
      have e : t = u := by
        rcases List.mem_cons.1 ((h t).1 (by simp)) with e | h1
        · exact e
        · rcases List.mem_cons.1 ((h u).2 (by simp)) with e | h2
          · exact e.symm
          · have a := hU.1 t h1
            have b := hT.1 u h2
            omega
      subst e
      congr 1
      refine ih hT.2 hU.2 fun e => ?_
      constructor
      · intro he
        rcases List.mem_cons.1 ((h e).1 (List.mem_cons_of_mem _ he)) with rfl | h1
        · exact absurd (hT.1 e he) (by omega)
        · exact h1
      · intro he
        rcases List.mem_cons.1 ((h e).2 (List.mem_cons_of_mem _ he)) with rfl | h1
        · exact absurd (hU.1 e he) (by omega)
        · exact h1
theorem rise_lk {T U : List Re} (hT : Rise T) (hU : Rise U) (h : ∀ p, lkT T p = lkT U p) : T = U :=
  rise_ext hT hU fun e => ⟨fun he => by
    have := lk_mem (h e.pos ▸ mem_lk hT he)
    exact this, fun he => by
    have := lk_mem ((h e.pos).symm ▸ mem_lk hU he)
    exact this⟩
/-- What was collected, no place twice, each of the table: sorted it is the table. -/
theorem sorted_is {T S : List Re} (hT : Rise T) (hs : S.Pairwise fun x y => x.pos ≤ y.pos) (hn : S.Pairwise fun x y => x.pos ≠ y.pos) (h : ∀ e, e ∈ S ↔ e ∈ T) : S = T := by
  refine rise_ext ?_ hT h
  unfold Rise
  have := List.pairwise_and_iff.2 ⟨hs, hn⟩
  exact this.imp fun h => by omega
/-! ### the document's own put: the first place that is not below -/
theorem put_at : ∀ {T : List Re} {x : Re} {i : Nat}, i ≤ T.length → (∀ j, j < i → (T.getD j re0).pos < x.pos) → (i < T.length → ¬ (T.getD i re0).pos < x.pos) →
    putT T x = if i < T.length ∧ (T.getD i re0).pos = x.pos then T.set i x else T.take i ++ x :: T.drop i := by
  intro T
  induction T with
  | nil =>
    intro x i hi _ _
    obtain rfl : i = 0 := by simpa using hi
    rfl
  | cons e r ih =>
    intro x i hi h1 h2
    cases i with
    | zero =>
      have h2 := h2 (by simp)
      have h2 : ¬ e.pos < x.pos := h2
      unfold putT
      rw [if_neg h2]
      by_cases c : e.pos = x.pos
      · rw [if_pos c, if_pos ⟨by simp, c⟩]; rfl
      · rw [if_neg c, if_neg (fun h => c h.2)]; rfl
    | succ i =>
      have h0 : e.pos < x.pos := h1 0 (by omega)
      unfold putT
      rw [if_pos h0, ih (i := i) (by simpa using hi) (fun j hj => h1 (j + 1) (by omega)) (fun hi' => h2 (by simpa using hi'))]
      have e1 : (i + 1 < (e :: r).length ∧ ((e :: r).getD (i + 1) re0).pos = x.pos) ↔ (i < r.length ∧ (r.getD i re0).pos = x.pos) := by
        rw [List.length_cons]
        constructor
        · rintro ⟨a, b⟩; exact ⟨by omega, b⟩
        · rintro ⟨a, b⟩; exact ⟨by omega, b⟩
      by_cases c : i < r.length ∧ (r.getD i re0).pos = x.pos
      · rw [if_pos c, if_pos (e1.2 c)]; rfl
      · rw [if_neg c, if_neg (fun h => c (e1.1 h))]; rfl
theorem del_more {T : List Re} {k : Nat} (h : k < T.length) (p : Int) : delT (T.take (k + 1)) p = delT (T.take k) p ++ (if (T.getD k re0).pos = p then [] else [T.getD k re0]) := by
  have e : T.take (k + 1) = T.take k ++ [T.getD k re0] := by
    rw [List.take_add_one, List.getD_eq_getElem?_getD, List.getElem?_eq_getElem h]; rfl
  unfold delT
  rw [e, List.filter_append]
  congr 1
  generalize T.getD k re0 = x
  by_cases c : x.pos = p
  · rw [if_pos c, List.filter_cons_of_neg (by simp [c])]; rfl
  · rw [if_neg c, List.filter_cons_of_pos (by simp [c])]; rfl
theorem lk_take_miss {T : List Re} {k : Nat} {p : Int} (h : ∀ j, j < k → (T.getD j re0).pos ≠ p) (hk : k < T.length) : lkT T p = if (T.getD k re0).pos = p then some (T.getD k re0).word else lkT (T.drop (k + 1)) p := by
  induction T generalizing k with
  | nil => cases hk
  | cons e r ih =>
    cases k with
    | zero => rfl
    | succ k =>
      have h0 : ¬ e.pos = p := h 0 (Nat.succ_pos k)
      show (if e.pos = p then some e.word else lkT r p) = _
      rw [if_neg h0, ih (fun j hj => h (j + 1) (Nat.succ_lt_succ hj)) (by simpa using hk)]
      rfl
theorem lk_all_miss {T : List Re} {p : Int} (h : ∀ j, j < T.length → (T.getD j re0).pos ≠ p) : lkT T p = none := by
  induction T with
  | nil => rfl
  | cons e r ih =>
    have h0 : ¬ e.pos = p := h 0 (by simp)
    show (if e.pos = p then some e.word else lkT r p) = none
    rw [if_neg h0]
    exact ih fun j hj => h (j + 1) (by simpa using hj)
/-! ### errors -/
def negB (L : List Re) : Bool := L.any fun e => decide (e.pos < 0)
def putE (L : List Re) : Int := if negB L then 2 else 0
def doneE (T : List Re) (p : Int) : Int := if hasT T p then 0 else 3
/-! ### stored -/
theorem last_lk {T : List Re} (h : Rise T) (a d : Nat) : lastW T a d = loadT T (a : Int) d := by
  induction T generalizing d with
  | nil => rfl
  | cons e r ih =>
    unfold Rise at h
    rw [List.pairwise_cons] at h
    show lastW r a (if e.pos = (a : Int) then e.word else d) = _
    rw [ih h.2]
    unfold loadT
    show (lkT r (a : Int)).getD _ = (if e.pos = (a : Int) then some e.word else lkT r (a : Int)).getD d
    by_cases c : e.pos = (a : Int)
    · have hn : lkT r (a : Int) = none := lk_below fun y hy => by have := h.1 y hy; omega
      rw [if_pos c, if_pos c, hn]; rfl
    · rw [if_neg c, if_neg c]
/-- Whoever stores all of it has what everybody saw. -/
theorem store_all {T : List Re} {w : List Nat} (h : Rise T) (hi : T.all (inB w.length) = true) {a : Nat} (ha : a < w.length) : (appL w T).getD a 0 = loadT T (a : Int) (w.getD a 0) := by
  rw [app_at T w hi a ha, last_lk h]
/-- One is stored, and done: what is seen stays. -/
theorem store_one {U : List Re} {w : List Nat} {e : Re} (hl : lkT U e.pos = some e.word) (h0 : 0 ≤ e.pos) (h1 : e.pos < (w.length : Int)) {a : Nat} (ha : a < w.length) :
    loadT (delT U e.pos) (a : Int) ((w.set e.pos.toNat e.word).getD a 0) = loadT U (a : Int) (w.getD a 0) := by
  rw [load_del, getD_setN]
  by_cases c : e.pos = (a : Int)
  · rw [if_pos c, if_pos ⟨by omega, by omega⟩]
    unfold loadT
    rw [← c, hl]; rfl
  · rw [if_neg c, if_neg (by omega)]
theorem puts_all {T L : List Re} {f : Re → Bool} (h : T.all f = true) (hl : L.all f = true) : (putsT T L).all f = true := by
  induction L generalizing T with
  | nil => exact h
  | cons x r ih =>
    rw [List.all_cons, Bool.and_eq_true] at hl
    refine ih ?_ hl.2
    rw [List.all_eq_true] at h ⊢
    intro e he
    rcases mem_put he with rfl | he
    · exact hl.1
    · exact h e he
theorem del_all {T : List Re} {f : Re → Bool} (h : T.all f = true) (p : Int) : (delT T p).all f = true := by
  rw [List.all_eq_true] at h ⊢
  intro e he
  exact h e (List.mem_filter.1 he).1
end Go.Proofs.Ytphjppnkackmmaa.SumMath
