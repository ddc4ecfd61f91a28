/- Names and paths as lists of bytes: what is wrong with them, their parts, how they are put together. No program stands here. -/
import Derived.Lib.Bytealg
import Derived.Lib.IndexLaws
import Derived.Lib.IndexAny
import Derived.Lib.Join
set_option linter.unusedSimpArgs false
set_option linter.unusedVariables false
namespace Go.Proofs.YtganpdplikbppaaDoor
open Go.Lib

/-- A text ahead of the first piece. -/
def glue (p : List UInt8) : List (List UInt8) → List (List UInt8)
  | [] => [p]
  | q :: r => (p ++ q) :: r
/-- The pieces of a text, between slashes. -/
def pcs : List UInt8 → List (List UInt8)
  | [] => [[]]
  | b :: l => if b = 47 then [] :: pcs l else glue [b] (pcs l)
def full (L : List (List UInt8)) : List (List UInt8) := L.filter fun p => !p.isEmpty
/-- The parts of a path. -/
def ptsL (l : List UInt8) : List (List UInt8) := full (pcs l)

theorem pcs_cons (l : List UInt8) : ∃ q r, pcs l = q :: r := by
  cases l with
  | nil => exact ⟨[], [], rfl⟩
  | cons b l =>
    unfold pcs
    split
    · exact ⟨_, _, rfl⟩
    · unfold glue
      split
      · exact ⟨_, _, rfl⟩
      · exact ⟨_, _, rfl⟩
theorem glue_nil (l : List UInt8) : glue [] (pcs l) = pcs l := by
  obtain ⟨q, r, h⟩ := pcs_cons l
  rw [h]; rfl
theorem glue_glue (p q : List UInt8) (l : List UInt8) : glue p (glue q (pcs l)) = glue (p ++ q) (pcs l) := by
  obtain ⟨x, r, h⟩ := pcs_cons l
  rw [h]; simp [glue]
theorem pcs_slash (a b : List UInt8) : pcs (a ++ 47 :: b) = pcs a ++ pcs b := by
  induction a with
  | nil => rfl
  | cons x a ih =>
    show (if x = 47 then [] :: pcs (a ++ 47 :: b) else glue [x] (pcs (a ++ 47 :: b))) = (if x = 47 then [] :: pcs a else glue [x] (pcs a)) ++ pcs b
    rw [ih]
    obtain ⟨q, r, h⟩ := pcs_cons a
    split
    · rfl
    · rw [h]; rfl
theorem pcs_none {a : List UInt8} (h : 47 ∉ a) : pcs a = [a] := by
  induction a with
  | nil => rfl
  | cons x a ih =>
    have hx : x ≠ 47 := fun e => h (by rw [e]; exact List.mem_cons_self ..)
    unfold pcs
    rw [if_neg hx, ih fun e => h (List.mem_cons_of_mem _ e)]
    rfl
theorem pcs_length (l : List UInt8) : (pcs l).length ≤ l.length + 1 := by
  induction l with
  | nil => decide
  | cons b l ih =>
    unfold pcs
    obtain ⟨q, r, h⟩ := pcs_cons l
    split
    · simpa using ih
    · rw [h] at ih ⊢; simp [glue] at ih ⊢; omega
theorem full_append (L M : List (List UInt8)) : full (L ++ M) = full L ++ full M := by simp [full]
theorem full_le (L : List (List UInt8)) : (full L).length ≤ L.length := List.length_filter_le _ _
theorem ptsL_slash (a b : List UInt8) : ptsL (a ++ 47 :: b) = ptsL a ++ ptsL b := by
  unfold ptsL; rw [pcs_slash, full_append]
theorem ptsL_nil : ptsL [] = [] := rfl
theorem ptsL_lead (b : List UInt8) : ptsL (47 :: b) = ptsL b := by
  have := ptsL_slash [] b
  simpa [ptsL_nil] using this
theorem ptsL_trail (a : List UInt8) : ptsL (a ++ [47]) = ptsL a := by
  have := ptsL_slash a []
  simpa [ptsL_nil] using this
theorem ptsL_length (l : List UInt8) : (ptsL l).length ≤ l.length + 1 := Nat.le_trans (full_le _) (pcs_length l)

/-! ### Where the first slash is -/
theorem cut_none {l : List UInt8} (h : indexByte l 47 = -1) : pcs l = [l] :=
  pcs_none fun hm => by
    obtain ⟨k, hk, e⟩ := List.getElem_of_mem hm
    exact indexByte_none h k (by rw [List.getElem?_eq_getElem hk, e])
theorem cut_some {l : List UInt8} {i : Nat} (h : indexByte l 47 = i) : i < l.length ∧ pcs l = l.take i :: pcs (l.drop (i + 1)) := by
  obtain ⟨h1, h2⟩ := indexByte_some h
  obtain ⟨hlt, he⟩ := List.getElem?_eq_some_iff.1 h1
  refine ⟨hlt, ?_⟩
  have e : l = l.take i ++ 47 :: l.drop (i + 1) := by
    rw [← he, List.getElem_cons_drop, List.take_append_drop]
  have hn : 47 ∉ l.take i := fun hm => by
    obtain ⟨k, hk, e⟩ := List.getElem_of_mem hm
    rw [List.length_take] at hk
    refine h2 k (by omega) ?_
    rw [List.getElem_take] at e
    rw [List.getElem?_eq_getElem (by omega), e]
  have := pcs_slash (l.take i) (l.drop (i + 1))
  rw [← e, pcs_none hn] at this
  exact this
theorem index_pos (l : List UInt8) (c : UInt8) : decide (0 ≤ indexByte l c) = l.contains c := (contains_iff_indexByte l c).symm
theorem containsAny_two (l : List UInt8) (a b : UInt8) : containsAny l [a, b] = (l.contains a || l.contains b) := by
  have key : ∀ l : List UInt8, (-1 ≤ indexAny l [a, b]) ∧ decide (0 ≤ indexAny l [a, b]) = (l.contains a || l.contains b) := by
    intro l
    refine ⟨indexAny_ge _ _, ?_⟩
    induction l with
    | nil => rfl
    | cons x l ih =>
      have hge := indexAny_ge [a, b] l
      rw [indexAny]
      simp only [List.contains_cons, List.contains_nil, Bool.or_false]
      by_cases h : (x == a || x == b) = true
      · rw [if_pos h]
        rcases Bool.or_eq_true _ _ ▸ h with h | h
        · have : (a == x) = true := by rw [beq_iff_eq] at h ⊢; exact h.symm
          simp [this]
        · have : (b == x) = true := by rw [beq_iff_eq] at h ⊢; exact h.symm
          simp [this]
      · rw [if_neg h]
        have h1 : (a == x) = false := by
          rw [beq_eq_false_iff_ne]; rintro rfl; simp at h
        have h2 : (b == x) = false := by
          rw [beq_eq_false_iff_ne]; rintro rfl; simp at h
        rw [h1, h2, Bool.false_or, Bool.false_or, ← ih]
        by_cases hm : indexAny l [a, b] = -1
        · rw [hm]; rfl
        · rw [if_neg (by simpa using hm)]
          exact decide_eq_decide.2 (by omega)
  exact (key l).2

/-! ### The answers -/
/-- Has it a byte 0, or a slash? -/
def has2 (l : List UInt8) : Bool := l.contains 0 || l.contains 47
def hasC (l : List UInt8) (c : UInt8) : Bool := l.contains c
def checkE (l : List UInt8) : Int := if l = [] then 602 else if has2 l = true then 622 else if 16 < l.length then 636 else 0
def wholeE (l : List UInt8) : Int := if l = [] then 602 else if 64 < l.length then 636 else if l.contains 0 = true then 622 else 0
def longL (L : List (List UInt8)) : Bool := L.any fun p => decide (16 < p.length)
def splitE (l : List UInt8) : Int := if wholeE l = 0 then (if longL (ptsL l) = true then 636 else 0) else wholeE l
def dotsB (l : List UInt8) : Bool := l == [46] || l == [46, 46]
def endsB (L : List (List UInt8)) : Bool := match L.getLast? with
  | none => false
  | some p => dotsB p
def rootB (l : List UInt8) : Bool := hasPrefix l [47]
def lastB (l : List UInt8) : Bool := hasSuffix l [47]
def dirB (l : List UInt8) : Bool := lastB l || endsB (ptsL l)
def tailB (d : Bool) (L : List (List UInt8)) : Bool := d && !L.isEmpty && !endsB L
def joinV (r d : Bool) (L : List (List UInt8)) : List UInt8 := (if r = true then [47] else []) ++ join L [47] ++ (if tailB d L = true then [47] else [])

theorem rootB_cons (b : UInt8) (l : List UInt8) : rootB (b :: l) = decide (b = 47) := by
  unfold rootB hasPrefix
  by_cases h : b = 47
  · subst h; simp [List.isPrefixOf]
  · have : ((47 : UInt8) == b) = false := by rw [beq_eq_false_iff_ne]; exact fun e => h e.symm
    simp [List.isPrefixOf, this, h]
theorem rootB_nil : rootB [] = false := rfl
theorem lastB_snoc (l : List UInt8) (b : UInt8) : lastB (l ++ [b]) = decide (b = 47) := by
  unfold lastB hasSuffix List.isSuffixOf
  by_cases h : b = 47
  · subst h; simp [List.isPrefixOf]
  · have : ((47 : UInt8) == b) = false := by rw [beq_eq_false_iff_ne]; exact fun e => h e.symm
    simp [List.isPrefixOf, this, h]
theorem lastB_nil : lastB [] = false := rfl
theorem lastB_append (a b : List UInt8) (hb : b ≠ []) : lastB (a ++ b) = lastB b := by
  obtain ⟨c, x, rfl⟩ : ∃ c x, b = c ++ [x] := ⟨b.dropLast, b.getLast hb, (List.dropLast_concat_getLast hb).symm⟩
  rw [← List.append_assoc, lastB_snoc, lastB_snoc]
theorem lastB_cons (b : UInt8) {l : List UInt8} (h : l ≠ []) : lastB (b :: l) = lastB l := lastB_append [b] l h

/-! ### Parts -/
theorem mem_pcs {l p : List UInt8} (h : p ∈ pcs l) : 47 ∉ p ∧ ∀ x ∈ p, x ∈ l := by
  induction l generalizing p with
  | nil => simp [pcs] at h; subst h; simp
  | cons b l ih =>
    unfold pcs at h
    obtain ⟨q, r, e⟩ := pcs_cons l
    split at h
    · rcases List.mem_cons.1 h with rfl | h
      · simp
      · exact ⟨(ih h).1, fun x hx => List.mem_cons_of_mem _ ((ih h).2 x hx)⟩
    · rename_i hb
      rw [e] at h ih
      rcases List.mem_cons.1 h with rfl | h
      · have hq := ih (List.mem_cons_self ..)
        refine ⟨fun hm => ?_, fun x hx => ?_⟩
        · rcases List.mem_cons.1 (show 47 ∈ b :: q from hm) with h' | h'
          · exact hb h'.symm
          · exact hq.1 h'
        · rcases List.mem_cons.1 (show x ∈ b :: q from hx) with h' | h'
          · rw [h']; exact List.mem_cons_self ..
          · exact List.mem_cons_of_mem _ (hq.2 x h')
      · have := ih (List.mem_cons_of_mem _ h)
        exact ⟨this.1, fun x hx => List.mem_cons_of_mem _ (this.2 x hx)⟩
theorem mem_pts {l p : List UInt8} (h : p ∈ ptsL l) : p ≠ [] ∧ 47 ∉ p ∧ ∀ x ∈ p, x ∈ l := by
  unfold ptsL full at h
  obtain ⟨h1, h2⟩ := List.mem_filter.1 h
  exact ⟨fun e => by subst e; simp at h2, mem_pcs h1⟩
theorem whole_ok {l : List UInt8} (h : wholeE l = 0) : l ≠ [] ∧ l.length ≤ 64 ∧ l.contains 0 = false := by
  unfold wholeE at h
  split at h
  · simp at h
  · split at h
    · simp at h
    · split at h
      · simp at h
      · rename_i h1 h2 h3
        exact ⟨h1, by omega, by simpa using h3⟩
theorem split_ok {l : List UInt8} (h : splitE l = 0) : wholeE l = 0 ∧ longL (ptsL l) = false := by
  unfold splitE at h
  split at h
  · rename_i h1
    refine ⟨h1, ?_⟩
    cases hl : longL (ptsL l) with
    | false => rfl
    | true => rw [hl] at h; simp at h
  · contradiction
theorem part_ok {l p : List UInt8} (h : splitE l = 0) (hp : p ∈ ptsL l) : checkE p = 0 := by
  obtain ⟨h1, h2⟩ := split_ok h
  obtain ⟨h3, h4, h5⟩ := whole_ok h1
  obtain ⟨p1, p2, p3⟩ := mem_pts hp
  have p4 : ¬ 16 < p.length := fun hl => by
    have : longL (ptsL l) = true := List.any_eq_true.2 ⟨p, hp, by simpa using hl⟩
    rw [this] at h2; cases h2
  have p5 : has2 p = false := by
    unfold has2
    rw [Bool.or_eq_false_iff]
    refine ⟨?_, by simpa using p2⟩
    have : (0 : UInt8) ∉ l := by simpa using h5
    have : (0 : UInt8) ∉ p := fun hm => this (p3 _ hm)
    simpa using this
  unfold checkE
  rw [if_neg p1, if_neg (by rw [p5]; simp), if_neg p4]
theorem pts_join {L : List (List UInt8)} (h : ∀ p ∈ L, p ≠ [] ∧ 47 ∉ p) : ptsL (join L [47]) = L := by
  induction L with
  | nil => rfl
  | cons p L ih =>
    have hp := h p (List.mem_cons_self ..)
    have hfull : full [p] = [p] := by
      unfold full
      have : p.isEmpty = false := by simpa using hp.1
      simp [this]
    cases L with
    | nil => rw [join_one]; unfold ptsL; rw [pcs_none hp.2, hfull]
    | cons q r =>
      have ih := ih fun x hx => h x (List.mem_cons_of_mem _ hx)
      have e : join (p :: q :: r) [47] = p ++ 47 :: join (q :: r) [47] := by
        rw [join_cons, join_cons]; simp [joinTail]
      rw [e, ptsL_slash, ih]
      unfold ptsL
      rw [pcs_none hp.2, hfull]
      rfl
def weight (L : List (List UInt8)) : Nat := lens L + L.length
theorem weight_cons (p : List UInt8) (L : List (List UInt8)) : weight (p :: L) = p.length + 1 + weight L := by simp [weight, lens]; omega
theorem weight_le : ∀ l : List UInt8, weight (ptsL l) + (if lastB l = true then 1 else 0) ≤ l.length + (if rootB l = true then 0 else 1)
  | [] => by decide
  | b :: l => by
    have ih := weight_le l
    by_cases hb : b = 47
    · subst hb
      rw [ptsL_lead, rootB_cons]
      cases l with
      | nil => decide
      | cons c l =>
        rw [lastB_cons _ (by simp)]
        have h1 : (if rootB (c :: l) = true then 0 else 1) ≤ 1 := by split <;> omega
        simp only [decide_true, if_true, List.length_cons] at ih ⊢
        omega
    · rw [rootB_cons, decide_eq_false hb]
      have hp : ptsL (b :: l) = full (glue [b] (pcs l)) := by unfold ptsL; rw [pcs, if_neg hb]
      cases l with
      | nil =>
        rw [hp]
        have : lastB [b] = false := by have := lastB_snoc [] b; rw [decide_eq_false hb] at this; exact this
        rw [this]
        simp [pcs, glue, full, weight, lens]
      | cons c l =>
        rw [lastB_cons _ (by simp), hp]
        rw [rootB_cons] at ih
        unfold ptsL at ih
        by_cases hc : c = 47
        · subst hc
          have e1 : pcs (47 :: l) = [] :: pcs l := by rw [pcs, if_pos rfl]
          rw [e1] at ih ⊢
          have e2 : full (glue [b] ([] :: pcs l)) = [b] :: full ([] :: pcs l) := by simp [glue, full]
          rw [e2, weight_cons]
          simp only [decide_true, if_true, List.length_cons, List.length_nil, Bool.false_eq_true, if_false] at ih ⊢
          omega
        · rw [decide_eq_false hc] at ih
          obtain ⟨q, r, e⟩ := pcs_cons l
          have e1 : pcs (c :: l) = (c :: q) :: r := by rw [pcs, if_neg hc, e]; rfl
          rw [e1] at ih ⊢
          have e2 : full (glue [b] ((c :: q) :: r)) = (b :: c :: q) :: full r := by simp [glue, full]
          have e3 : full ((c :: q) :: r) = (c :: q) :: full r := by simp [full]
          rw [e2, weight_cons]
          rw [e3, weight_cons] at ih
          simp only [List.length_cons, Bool.false_eq_true, if_false] at ih ⊢
          omega
theorem join_weight {L : List (List UInt8)} (h : L ≠ []) : (join L [47]).length + 1 = weight L := by
  cases L with
  | nil => exact absurd rfl h
  | cons p L => rw [join_length]; simp [weight]; omega
theorem endsB_nil : endsB [] = false := rfl
theorem join_ne {L : List (List UInt8)} (h : L ≠ []) (hp : ∀ p ∈ L, p ≠ []) : join L [47] ≠ [] := fun e => by
  cases L with
  | nil => exact h rfl
  | cons p L =>
    rw [join_cons] at e
    exact hp p (List.mem_cons_self ..) (List.append_eq_nil_iff.1 e).1
theorem rootB_join {L : List (List UInt8)} (h : ∀ p ∈ L, p ≠ [] ∧ 47 ∉ p) : rootB (join L [47]) = false := by
  cases L with
  | nil => rfl
  | cons p L =>
    obtain ⟨h1, h2⟩ := h p (List.mem_cons_self ..)
    rw [join_cons]
    cases p with
    | nil => exact absurd rfl h1
    | cons b p =>
      rw [List.cons_append, rootB_cons]
      exact decide_eq_false fun e => h2 (by rw [e]; exact List.mem_cons_self ..)
theorem lastB_join {L : List (List UInt8)} (h : ∀ p ∈ L, p ≠ [] ∧ 47 ∉ p) : lastB (join L [47]) = false := by
  induction L with
  | nil => rfl
  | cons p L ih =>
    have hp := h p (List.mem_cons_self ..)
    cases L with
    | nil =>
      rw [join_one]
      obtain ⟨c, x, e⟩ : ∃ c x, p = c ++ [x] := ⟨p.dropLast, p.getLast hp.1, (List.dropLast_concat_getLast hp.1).symm⟩
      rw [e, lastB_snoc]
      exact decide_eq_false fun e' => hp.2 (by rw [e, e']; simp)
    | cons q r =>
      have e : join (p :: q :: r) [47] = (p ++ [47]) ++ join (q :: r) [47] := by
        rw [join_cons, join_cons]; simp [joinTail]
      have hL : ∀ x ∈ q :: r, x ≠ [] ∧ 47 ∉ x := fun x hx => h x (List.mem_cons_of_mem _ hx)
      rw [e, lastB_append _ _ (join_ne (by simp) fun x hx => (hL x hx).1)]
      exact ih hL
theorem no_parts {m : List UInt8} (he : ptsL m = []) (hm : m ≠ []) : rootB m = true ∧ lastB m = true := by
  induction m with
  | nil => exact absurd rfl hm
  | cons c m ih =>
    by_cases hc : c = 47
    · subst hc
      rw [ptsL_lead] at he
      refine ⟨by rw [rootB_cons]; rfl, ?_⟩
      cases m with
      | nil => decide
      | cons d m => rw [lastB_cons _ (by simp)]; exact (ih he (by simp)).2
    · exfalso
      unfold ptsL at he
      rw [pcs, if_neg hc] at he
      obtain ⟨q, r, e'⟩ := pcs_cons m
      rw [e'] at he
      simp [glue, full] at he
/-- The stage's theorem over lists. -/
theorem back {l : List UInt8} (h : splitE l = 0) :
    (joinV (rootB l) (dirB l) (ptsL l)).length ≤ l.length ∧
    splitE (joinV (rootB l) (dirB l) (ptsL l)) = 0 ∧ ptsL (joinV (rootB l) (dirB l) (ptsL l)) = ptsL l ∧
    rootB (joinV (rootB l) (dirB l) (ptsL l)) = rootB l ∧ dirB (joinV (rootB l) (dirB l) (ptsL l)) = dirB l := by
  obtain ⟨hw, hlong⟩ := split_ok h
  obtain ⟨hne, hlen, h0⟩ := whole_ok hw
  have hw1 := weight_le l
  have hparts : ∀ p ∈ ptsL l, p ≠ [] ∧ 47 ∉ p := fun p hp => ⟨(mem_pts hp).1, (mem_pts hp).2.1⟩
  have hzero : ∀ p ∈ ptsL l, (0 : UInt8) ∉ p := fun p hp hm => by
    have : (0 : UInt8) ∉ l := by simpa using h0
    exact this ((mem_pts hp).2.2 _ hm)
  have hdir : dirB l = (lastB l || endsB (ptsL l)) := rfl
  have hroot0 : ptsL l = [] → rootB l = true ∧ lastB l = true := fun e => no_parts e hne
  generalize hL : ptsL l = L at *
  generalize rootB l = r at *
  generalize hd : dirB l = d at *
  have hT : tailB d L = true → lastB l = true := fun ht => by
    unfold tailB at ht
    simp only [Bool.and_eq_true, Bool.not_eq_true'] at ht
    obtain ⟨⟨h1, _⟩, h3⟩ := ht
    rw [h1, h3, Bool.or_false] at hdir
    exact hdir.symm
  have hTl : (if tailB d L = true then [47] else ([] : List UInt8)).length ≤ if lastB l = true then 1 else 0 := by
    cases ht : tailB d L with
    | false => simp
    | true => rw [hT ht]; simp
  -- the length
  have hlen1 : (joinV r d L).length ≤ l.length := by
    unfold joinV
    simp only [List.length_append]
    by_cases hL0 : L = []
    · have := hroot0 hL0
      subst hL0
      rw [this.1, show tailB d [] = false by unfold tailB; simp]
      have : l.length ≠ 0 := fun e => hne (List.eq_nil_of_length_eq_zero e)
      simp [join_nil]
      omega
    · have hj := join_weight hL0
      have hr1 : (if r = true then [47] else ([] : List UInt8)).length + (if r = true then 0 else 1) = 1 := by cases r <;> rfl
      omega
  -- the parts
  have hpts : ptsL (joinV r d L) = L := by
    unfold joinV
    have e1 : ptsL (join L [47] ++ (if tailB d L = true then [47] else [])) = L := by
      split
      · rw [ptsL_trail, pts_join hparts]
      · rw [List.append_nil, pts_join hparts]
    cases r
    · simpa using e1
    · rw [if_pos rfl, List.append_assoc, List.singleton_append, ptsL_lead]; exact e1
  have hjne : joinV r d L ≠ [] := fun e => by
    unfold joinV at e
    have e2 := (List.append_eq_nil_iff.1 (List.append_eq_nil_iff.1 e).1)
    by_cases hL0 : L = []
    · rw [(hroot0 hL0).1] at e2; simp at e2
    · exact join_ne hL0 (fun p hp => (hparts p hp).1) e2.2
  have hz : (joinV r d L).contains 0 = false := by
    have hjz : (0 : UInt8) ∉ join L [47] := by
      cases L with
      | nil => simp [join_nil]
      | cons p L =>
        rw [join_cons]
        intro hm
        rcases List.mem_append.1 hm with hm | hm
        · exact hzero p (List.mem_cons_self ..) hm
        · unfold joinTail at hm
          obtain ⟨x, hx, hm⟩ := List.mem_flatten.1 hm
          obtain ⟨y, hy, rfl⟩ := List.mem_map.1 hx
          rcases List.mem_append.1 hm with hm | hm
          · simp at hm
          · exact hzero y (List.mem_cons_of_mem _ hy) hm
    have : (0 : UInt8) ∉ joinV r d L := by
      unfold joinV
      intro hm
      rcases List.mem_append.1 hm with hm | hm
      · rcases List.mem_append.1 hm with hm | hm
        · cases r <;> simp at hm
        · exact hjz hm
      · split at hm <;> simp at hm
    simpa using this
  have hwj : wholeE (joinV r d L) = 0 := by
    unfold wholeE
    rw [if_neg hjne, if_neg (by omega), hz]; rfl
  refine ⟨hlen1, ?_, hpts, ?_, ?_⟩
  · unfold splitE
    rw [if_pos hwj, hpts, hlong]; rfl
  · unfold joinV
    cases r
    · rw [if_neg (by simp), List.nil_append]
      by_cases hL0 : L = []
      · have := (hroot0 hL0).1; cases this
      · have hjj := join_ne hL0 (fun p hp => (hparts p hp).1)
        have := rootB_join hparts
        cases hj : join L [47] with
        | nil => exact absurd hj hjj
        | cons b m => rw [hj] at this; rw [List.cons_append, rootB_cons]; rw [rootB_cons] at this; exact this
    · rw [if_pos rfl, List.append_assoc, List.singleton_append, rootB_cons]; rfl
  · unfold dirB
    rw [hpts]
    cases ht : tailB d L with
    | true =>
      have h1 : lastB (joinV r d L) = true := by unfold joinV; rw [ht, if_pos rfl, lastB_snoc]; rfl
      have hd1 : d = true := by unfold tailB at ht; simp only [Bool.and_eq_true] at ht; exact ht.1.1
      rw [h1, hd1]; rfl
    | false =>
      by_cases hL0 : L = []
      · subst hL0
        have hr1 := (hroot0 rfl).1
        rw [(hroot0 rfl).2] at hdir
        have h1 : lastB (joinV r d []) = true := by rw [hr1]; unfold joinV; rw [ht]; decide
        rw [h1, Bool.true_or]; rw [Bool.true_or] at hdir; exact hdir.symm
      · have h1 : lastB (joinV r d L) = false := by
          unfold joinV
          rw [ht]
          simp only [Bool.false_eq_true, if_false, List.append_nil]
          rw [lastB_append _ _ (join_ne hL0 (fun p hp => (hparts p hp).1))]
          exact lastB_join hparts
        rw [h1, Bool.false_or]
        unfold tailB at ht
        have hLe : L.isEmpty = false := by simpa using hL0
        rw [hLe] at ht
        cases hE : endsB L with
        | true => rw [hE] at hdir; rw [hdir, Bool.or_true]
        | false => rw [hE] at ht; simpa using ht.symm
/-- More slashes where there is one. -/
theorem more {a b : List UInt8} (m : Nat) (h : (a ++ List.replicate m 47 ++ 47 :: b).length ≤ 64) :
    splitE (a ++ 47 :: b) = splitE (a ++ List.replicate m 47 ++ 47 :: b) ∧ ptsL (a ++ 47 :: b) = ptsL (a ++ List.replicate m 47 ++ 47 :: b) ∧
    rootB (a ++ 47 :: b) = rootB (a ++ List.replicate m 47 ++ 47 :: b) ∧ dirB (a ++ 47 :: b) = dirB (a ++ List.replicate m 47 ++ 47 :: b) := by
  have e1 : ptsL (a ++ List.replicate m 47 ++ 47 :: b) = ptsL (a ++ 47 :: b) := by
    have : ∀ m, ptsL (a ++ List.replicate m 47) = ptsL a := by
      intro m
      induction m with
      | zero => simp
      | succ m ih => rw [List.replicate_succ', ← List.append_assoc, ptsL_trail, ih]
    rw [ptsL_slash, ptsL_slash, this]
  have e2 : rootB (a ++ 47 :: b) = rootB (a ++ List.replicate m 47 ++ 47 :: b) := by
    cases a with
    | nil =>
      cases m with
      | zero => rfl
      | succ m => rw [List.replicate_succ]; simp only [List.nil_append, List.cons_append]; rw [rootB_cons, rootB_cons]
    | cons x a => simp only [List.cons_append]; rw [rootB_cons, rootB_cons]
  have e3 : lastB (a ++ 47 :: b) = lastB (a ++ List.replicate m 47 ++ 47 :: b) := by
    rw [lastB_append _ _ (by simp), lastB_append _ _ (by simp)]
  have hl : (a ++ 47 :: b).length ≤ 64 := by simp at h ⊢; omega
  have e4 : wholeE (a ++ 47 :: b) = wholeE (a ++ List.replicate m 47 ++ 47 :: b) := by
    have n1 : a ++ 47 :: b ≠ [] := by simp
    have n2 : a ++ List.replicate m 47 ++ 47 :: b ≠ [] := by simp
    have c : (a ++ 47 :: b).contains (0 : UInt8) = (a ++ List.replicate m 47 ++ 47 :: b).contains (0 : UInt8) := by
      rw [Bool.eq_iff_iff]
      simp
    have q1 : ¬ 64 < (a ++ 47 :: b).length := by omega
    have q2 : ¬ 64 < (a ++ List.replicate m 47 ++ 47 :: b).length := by omega
    unfold wholeE
    rw [if_neg n1, if_neg n2, if_neg q1, if_neg q2, c]
  refine ⟨?_, e1.symm, e2, ?_⟩
  · unfold splitE; rw [e4, e1]
  · unfold dirB; rw [e3, e1]
end Go.Proofs.YtganpdplikbppaaDoor
