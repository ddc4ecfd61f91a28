/- Which numbers attributes have. -/
import Derived.Test.YtgdiiicaljidpaaAtT
import Derived.Test.YtgdiiicaljidpaaAcT
set_option linter.unusedSimpArgs false
set_option linter.unusedVariables false
set_option linter.unusedSimpArgs false
set_option linter.unusedVariables false
namespace Go.Proofs.Ytgdiiicaljidpaa
open Go.RowKit
structure CNum (x : Ac) : Prop where
  us : ∀ (k : Nat) p, x.us[k]? = some p → p.id < 65536 ∧ p.pm < 256
  gs : ∀ (k : Nat) p, x.gs[k]? = some p → p.id < 65536 ∧ p.pm < 256
structure ANum (x : At) : Prop where
  ui : x.ui < 65536
  gi : x.gi < 65536
  ac : CNum x.ac
  df : CNum x.df
theorem amay_parts {x : At} (h : amayB x = true) : x.bi ≤ 7 ∧ mayB x.ac = true ∧ mayB x.df = true ∧ (x.hd || sameB x.df acZ) = true ∧ xsB x.xs = true := by
  unfold amayB defB at h
  simp only [Bool.and_eq_true, decide_eq_true_eq] at h
  exact ⟨h.1, h.2.1, h.2.2.1.1, h.2.2.1.2, h.2.2.2⟩
theorem asm_of {x : At} (h : amayB x = true) : ASm x := by
  obtain ⟨h1, h2, h3, _, h5⟩ := amay_parts h
  have m2 := mayB_iff.1 h2
  have m3 := mayB_iff.1 h3
  have a1 := (namedB_iff.1 m2.us).2
  have a2 := (namedB_iff.1 m2.gs).2
  have a3 := (namedB_iff.1 m3.us).2
  have a4 := (namedB_iff.1 m3.gs).2
  have a5 := (xsB_iff.1 h5).2
  exact ⟨⟨by omega, by omega⟩, ⟨by omega, by omega⟩, by omega⟩
end Go.Proofs.Ytgdiiicaljidpaa
/- Who is granted what, over lists. No walk stands here. -/
set_option linter.unusedSimpArgs false
set_option linter.unusedVariables false
namespace Go.Proofs.Ytgdiiicaljidpaa
/-- A process. -/
structure Cr where
  ui : Nat
  gi : Nat
  gs : List Nat
  hi : Bool
/-- A perm has all that is wanted. -/
def hasB (p q : Nat) : Bool := decide (p &&& q = q)
theorem hasB_iff {p q : Nat} : hasB p q = true ↔ ∀ i, q.testBit i = true → p.testBit i = true := by
  unfold hasB
  rw [decide_eq_true_eq]
  constructor
  · intro h i hi
    rw [← h, Nat.testBit_and, Bool.and_eq_true] at hi
    exact hi.1
  · intro h
    refine Nat.eq_of_testBit_eq fun i => ?_
    rw [Nat.testBit_and]
    cases hq : q.testBit i with
    | false => rw [Bool.and_false]
    | true => rw [h i hq]; rfl
theorem hasB_sub {p p' q : Nat} (h : hasB (p &&& p') q = true) : hasB p' q = true ∧ hasB p q = true := by
  constructor
  all_goals
    refine hasB_iff.2 fun i hi => ?_
    have := hasB_iff.1 h i hi
    rw [Nat.testBit_and, Bool.and_eq_true] at this
    first | exact this.2 | exact this.1
theorem hasB_less {p q r : Nat} (h : hasB p q = true) : hasB p (r &&& q) = true := hasB_iff.2 fun i hi => hasB_iff.1 h i (by
  rw [Nat.testBit_and, Bool.and_eq_true] at hi; exact hi.2)
/-- What at least one of these has. -/
def orL (l : List Nat) : Nat := l.foldl (· ||| ·) 0
theorem orL_more (l : List Nat) (p : Nat) : orL (l ++ [p]) = orL l ||| p := by
  unfold orL
  rw [List.foldl_append]
  rfl
theorem foldl_or (l : List Nat) : ∀ (a i : Nat), (l.foldl (· ||| ·) a).testBit i = (a.testBit i || l.any fun p => p.testBit i) := by
  induction l with
  | nil => intro a i; simp
  | cons p r ih => intro a i; rw [List.foldl_cons, ih, Nat.testBit_or, List.any_cons, Bool.or_assoc]
theorem orL_bit (l : List Nat) (i : Nat) : (orL l).testBit i = l.any fun p => p.testBit i := by
  unfold orL
  rw [foldl_or, Nat.zero_testBit, Bool.false_or]
theorem foldl_lt (l : List Nat) (n : Nat) : ∀ a, a < 2 ^ n → (∀ p ∈ l, p < 2 ^ n) → l.foldl (· ||| ·) a < 2 ^ n := by
  induction l with
  | nil => intro a ha _; exact ha
  | cons p r ih => intro a ha h; exact ih _ (Nat.or_lt_two_pow ha (h p (by simp))) fun q hq => h q (by simp [hq])
theorem orL_lt {l : List Nat} (n : Nat) (h : ∀ p ∈ l, p < 2 ^ n) : orL l < 2 ^ n := foldl_lt l n 0 (Nat.two_pow_pos n) h
/-- The groups of a process. -/
def inB (c : Cr) (g : Nat) : Bool := decide (c.gi = g) || c.gs.any fun h => decide (h = g)
/-- The perms of those entries that are for the process. -/
def permsL (L : List Nm) (m : Nat) (F : Nat → Bool) : List Nat := (L.filter fun p => F p.id).map fun p => p.pm &&& m
theorem permsL_more (L : List Nm) (p : Nm) (m : Nat) (F : Nat → Bool) : permsL (L ++ [p]) m F = if F p.id then permsL L m F ++ [p.pm &&& m] else permsL L m F := by
  unfold permsL
  rw [List.filter_append, List.map_append]
  cases h : F p.id <;> simp [h]
theorem permsL_len (L : List Nm) (m : Nat) (F : Nat → Bool) : (permsL L m F).length ≤ L.length := by
  unfold permsL
  rw [List.length_map]
  exact List.length_filter_le _ _
theorem permsL_lt {L : List Nm} {m : Nat} {F : Nat → Bool} {n : Nat} (h : m < 2 ^ n) : ∀ p ∈ permsL L m F, p < 2 ^ n := by
  intro p hp
  unfold permsL at hp
  rw [List.mem_map] at hp
  obtain ⟨q, _, rfl⟩ := hp
  exact Nat.and_lt_two_pow _ h
/-- The group entries. -/
def entL (x : At) : List Nm := ⟨x.gi, x.ac.gr⟩ :: x.ac.gs
def maskN (x : Ac) : Nat := if x.hm then x.ms else 7
def runsN (x : At) : Bool := hasB (orL [x.ac.ow, orL (permsL x.ac.us 7 fun _ => true), orL (permsL (entL x) 7 fun _ => true), x.ac.ot]) 1
def topN (x : At) (dir : Bool) : Nat := if dir || runsN x then 1 else 0
def usL (c : Cr) (x : At) : List Nat := permsL x.ac.us (maskN x.ac) fun i => decide (i = c.ui)
def grL (c : Cr) (x : At) : List Nat := permsL (entL x) (maskN x.ac) fun i => inB c i
/-- What the first rule that applies has for the process. -/
def offL (c : Cr) (x : At) (dir : Bool) : List Nat :=
  if c.ui = 0 then [orL [topN x dir, 4, 2]]
  else if c.ui = x.ui then [x.ac.ow]
  else if 0 < (usL c x).length then usL c x
  else if 0 < (grL c x).length then grL c x
  else [x.ac.ot]
def validB (c : Cr) (x : At) : Bool := decide (c.gs.length ≤ 4) && amayB x
def mayG (c : Cr) (x : At) (dir : Bool) (q : Nat) : Bool := validB c x && (decide (q ≤ 7) && (offL c x dir).any fun p => hasB p q)
def mostG (c : Cr) (x : At) (dir : Bool) : Nat := if validB c x then orL (offL c x dir) else 0
/-- The document's. -/
def maskedN (x : Ac) (p : Nat) : Nat := if x.hm then p &&& x.ms else p
def runsR (x : Ac) : Bool := (x.us.any fun p => hasB p.pm 1) || ((x.gs.any fun p => hasB p.pm 1) || (hasB x.ow 1 || (hasB x.gr 1 || hasB x.ot 1)))
def oneR (c : Cr) (x : Ac) (q : Nat) (p : Nm) : Bool := inB c p.id && hasB (maskedN x p.pm) q
def grantR (c : Cr) (x : At) (dir : Bool) (q : Nat) : Bool :=
  if c.ui = 0 then dir || (!hasB q 1 || runsR x.ac)
  else if c.ui = x.ui then hasB x.ac.ow q
  else match x.ac.us.find? (fun p => decide (p.id = c.ui)) with
    | some p => hasB (maskedN x.ac p.pm) q
    | none =>
      if inB c x.gi && hasB (maskedN x.ac x.ac.gr) q then true
      else if x.ac.gs.any (oneR c x.ac q) then true
      else !(inB c x.gi || x.ac.gs.any fun p => inB c p.id) && hasB x.ac.ot q
def mayR (c : Cr) (x : At) (dir : Bool) (q : Nat) : Bool := decide (c.gs.length ≤ 4) && (amayB x && (decide (q ≤ 7) && grantR c x dir q))
def stepR (c : Cr) (x : At) (dir : Bool) (k : Nat) : Nat := if mayR c x dir (2 ^ k) then 2 ^ k else 0
def mostR (c : Cr) (x : At) (dir : Bool) : Nat := stepR c x dir 0 + stepR c x dir 1 + stepR c x dir 2
/-- What may be, in numbers. -/
theorem rise_nm {L : List Nm} (h : namedB L = true) : (∀ p ∈ L, p.pm ≤ 7) ∧ L.Pairwise fun p q => p.id < q.id := by
  have hr := (namedB_iff.1 h).1
  refine ⟨fun p hp => ?_, ?_⟩
  · obtain ⟨k, hk⟩ := List.getElem?_of_mem hp
    exact hr.pm k p (List.getElem?_eq_some_iff.1 hk).1 hk
  · have step : ∀ d j p q, L[j]? = some p → L[j + d + 1]? = some q → p.id < q.id := by
      intro d
      induction d with
      | zero => intro j p q hp hq; exact hr.id j p q (List.getElem?_eq_some_iff.1 hq).1 hp hq
      | succ d ih =>
        intro j p q hp hq
        have hl := (List.getElem?_eq_some_iff.1 hq).1
        obtain ⟨r, hr'⟩ : ∃ r, L[j + d + 1]? = some r := ⟨_, List.getElem?_eq_getElem (by omega)⟩
        exact Nat.lt_trans (ih j p r hp hr') (hr.id (j + d + 1) r q (by omega) hr' hq)
    rw [List.pairwise_iff_getElem]
    intro i j hi hj hij
    exact step (j - i - 1) i _ _ (List.getElem?_eq_getElem hi) (by rw [show i + (j - i - 1) + 1 = j by omega]; exact List.getElem?_eq_getElem hj)
theorem filter_one {L : List Nm} (u : Nat) (h : L.Pairwise fun p q => p.id < q.id) : (L.filter fun p => decide (p.id = u)) = match L.find? (fun p => decide (p.id = u)) with | some p => [p] | none => [] := by
  induction L with
  | nil => rfl
  | cons p r ih =>
    rw [List.pairwise_cons] at h
    by_cases hp : p.id = u
    · have hn : (r.filter fun q => decide (q.id = u)) = [] := by
        rw [List.filter_eq_nil_iff]
        intro q hq
        have := h.1 q hq
        simp; omega
      simp [hp, hn]
    · simp only [List.filter_cons, List.find?_cons, hp, decide_false]
      exact ih h.2
theorem pm7 {p : Nat} (h : p ≤ 7) : p &&& 7 = p := by
  have := Nat.and_two_pow_sub_one_eq_mod p 3
  rw [show (2 ^ 3 - 1 : Nat) = 7 by decide] at this
  rw [this]
  omega
theorem masked_eq {x : Ac} {p : Nat} (h : p ≤ 7) : p &&& maskN x = maskedN x p := by
  unfold maskN maskedN
  cases x.hm
  · exact pm7 h
  · rfl
theorem perms_any (L : List Nm) (m q : Nat) (F : Nat → Bool) : (permsL L m F).any (fun p => hasB p q) = L.any fun p => F p.id && hasB (p.pm &&& m) q := by
  unfold permsL
  induction L with
  | nil => rfl
  | cons p r ih =>
    cases h : F p.id <;> simp_all
theorem perms_nil (L : List Nm) (m : Nat) (F : Nat → Bool) : (0 < (permsL L m F).length) ↔ (L.any fun p => F p.id) = true := by
  unfold permsL
  rw [List.length_map]
  induction L with
  | nil => simp
  | cons p r ih =>
    cases h : F p.id <;> simp_all
theorem any_cong {L : List Nm} {f g : Nm → Bool} (h : ∀ p ∈ L, f p = g p) : L.any f = L.any g := by
  induction L with
  | nil => rfl
  | cons p r ih => rw [List.any_cons, List.any_cons, h p (by simp), ih fun q hq => h q (by simp [hq])]
theorem bit_one (p : Nat) : hasB p 1 = p.testBit 0 := by
  rw [Bool.eq_iff_iff, hasB_iff]
  constructor
  · intro h; exact h 0 rfl
  · intro h i hi
    cases i with
    | zero => exact h
    | succ i => simp [Nat.testBit_succ] at hi
theorem runs_eq {x : At} (h : mayB x.ac = true) : runsN x = runsR x.ac := by
  have hm := mayB_iff.1 h
  obtain ⟨u7, _⟩ := rise_nm hm.us
  obtain ⟨g7, _⟩ := rise_nm hm.gs
  have e1 : (permsL x.ac.us 7 fun _ => true).any (fun p => p.testBit 0) = x.ac.us.any fun p => hasB p.pm 1 := by
    have := perms_any x.ac.us 7 1 fun _ => true
    simp only [bit_one, Bool.true_and] at this ⊢
    rw [this]
    exact any_cong fun p hp => by rw [pm7 (u7 p hp)]
  have e2 : (permsL (entL x) 7 fun _ => true).any (fun p => p.testBit 0) = ((x.ac.gs.any fun p => hasB p.pm 1) || hasB x.ac.gr 1) := by
    have := perms_any (entL x) 7 1 fun _ => true
    simp only [bit_one, Bool.true_and] at this ⊢
    rw [this]
    unfold entL
    rw [List.any_cons, pm7 hm.gr, Bool.or_comm]
    rw [any_cong fun p hp => by rw [pm7 (g7 p hp)]]
  unfold runsN runsR
  rw [bit_one, orL_bit]
  simp only [List.any_cons, List.any_nil, orL_bit, e1, e2, bit_one, Bool.or_false]
  cases x.ac.ow.testBit 0 <;> cases x.ac.ot.testBit 0 <;> cases x.ac.gr.testBit 0 <;> cases (x.ac.us.any fun p => p.pm.testBit 0) <;> simp
theorem or42 (t : Nat) (ht : t = 0 ∨ t = 1) (q : Nat) (hq : q ≤ 7) : hasB (orL [t, 4, 2]) q = (decide (t = 1) || !hasB q 1) := by
  rcases ht with rfl | rfl
  all_goals
    have : q = 0 ∨ q = 1 ∨ q = 2 ∨ q = 3 ∨ q = 4 ∨ q = 5 ∨ q = 6 ∨ q = 7 := by omega
    rcases this with rfl | rfl | rfl | rfl | rfl | rfl | rfl | rfl <;> decide
theorem grant_eq {c : Cr} {x : At} {dir : Bool} {q : Nat} (h : amayB x = true) (hq : q ≤ 7) : (offL c x dir).any (fun p => hasB p q) = grantR c x dir q := by
  obtain ⟨_, hac, _, _, _⟩ := amay_parts h
  have hm := mayB_iff.1 hac
  obtain ⟨u7, up⟩ := rise_nm hm.us
  obtain ⟨g7, _⟩ := rise_nm hm.gs
  unfold offL grantR
  by_cases h0 : c.ui = 0
  · rw [if_pos h0, if_pos h0, List.any_cons, List.any_nil, Bool.or_false]
    have ht : topN x dir = 0 ∨ topN x dir = 1 := by
      unfold topN
      cases (dir || runsN x)
      · exact .inl rfl
      · exact .inr rfl
    rw [or42 _ ht q hq, ← runs_eq hac]
    unfold topN
    cases dir <;> cases runsN x <;> simp
  · rw [if_neg h0, if_neg h0]
    by_cases h1 : c.ui = x.ui
    · rw [if_pos h1, if_pos h1, List.any_cons, List.any_nil, Bool.or_false]
    · rw [if_neg h1, if_neg h1]
      have hu : usL c x = match x.ac.us.find? (fun p => decide (p.id = c.ui)) with | some p => [maskedN x.ac p.pm] | none => [] := by
        unfold usL permsL
        rw [filter_one c.ui up]
        cases hf : x.ac.us.find? (fun p => decide (p.id = c.ui)) with
        | none => rfl
        | some p =>
          show [p.pm &&& maskN x.ac] = _
          rw [masked_eq (u7 p (List.mem_of_find?_eq_some hf))]
      rw [hu]
      cases hf : x.ac.us.find? (fun p => decide (p.id = c.ui)) with
      | some p => simp
      | none =>
        simp only [List.length_nil, Nat.lt_irrefl, if_false]
        have hne := perms_nil (entL x) (maskN x.ac) fun i => inB c i
        have han := perms_any (entL x) (maskN x.ac) q fun i => inB c i
        have e1 : (entL x).any (fun p => inB c p.id && hasB (p.pm &&& maskN x.ac) q) = ((inB c x.gi && hasB (maskedN x.ac x.ac.gr) q) || x.ac.gs.any (oneR c x.ac q)) := by
          unfold entL
          rw [List.any_cons, masked_eq hm.gr]
          rw [any_cong (g := oneR c x.ac q) fun p hp => by unfold oneR; rw [masked_eq (g7 p hp)]]
        have e2 : (entL x).any (fun p => inB c p.id) = (inB c x.gi || x.ac.gs.any fun p => inB c p.id) := rfl
        rw [e1] at han
        rw [e2] at hne
        by_cases hg : 0 < (grL c x).length
        · rw [if_pos hg]
          unfold grL at hg ⊢
          rw [hne.1 hg, han]
          cases (inB c x.gi && hasB (maskedN x.ac x.ac.gr) q) <;> cases x.ac.gs.any (oneR c x.ac q) <;> rfl
        · rw [if_neg hg]
          unfold grL at hg
          have hf2 : (inB c x.gi || x.ac.gs.any fun p => inB c p.id) = false := by
            cases hh : (inB c x.gi || x.ac.gs.any fun p => inB c p.id) with
            | false => rfl
            | true => exact absurd (hne.2 hh) hg
          rw [hf2]
          rw [Bool.or_eq_false_iff] at hf2
          have hno : x.ac.gs.any (oneR c x.ac q) = false := by
            rw [List.any_eq_false] at hf2 ⊢
            intro p hp
            have := hf2.2 p hp
            unfold oneR
            simp at this ⊢
            intro hh
            rw [this] at hh
            cases hh
          rw [hno, hf2.1]
          simp
theorem may_eq (c : Cr) (x : At) (dir : Bool) (q : Nat) : mayG c x dir q = mayR c x dir q := by
  unfold mayG mayR validB
  rw [Bool.and_assoc]
  cases h : amayB x with
  | false => rfl
  | true =>
    by_cases hq : q ≤ 7
    · rw [grant_eq h hq]
    · rw [decide_eq_false hq]; rfl
theorem off_lt {c : Cr} {x : At} {dir : Bool} (h : amayB x = true) : ∀ p ∈ offL c x dir, p < 2 ^ 3 := by
  obtain ⟨_, hac, _, _, _⟩ := amay_parts h
  have hm := mayB_iff.1 hac
  have hmk : maskN x.ac < 2 ^ 3 := by
    unfold maskN
    have := hm.ms
    split <;> omega
  intro p hp
  unfold offL at hp
  split at hp
  · rw [List.mem_singleton] at hp
    subst hp
    refine orL_lt 3 fun p hp => ?_
    have ht : topN x dir < 2 := by unfold topN; split <;> omega
    simp only [List.mem_cons, List.not_mem_nil, or_false] at hp
    omega
  · split at hp
    · rw [List.mem_singleton] at hp
      have := hm.ow
      omega
    · split at hp
      · exact permsL_lt hmk p hp
      · split at hp
        · exact permsL_lt hmk p hp
        · rw [List.mem_singleton] at hp
          have := hm.ot
          omega
theorem hasB_pow (p k : Nat) : hasB p (2 ^ k) = p.testBit k := by
  rw [Bool.eq_iff_iff, hasB_iff]
  constructor
  · intro h; exact h k (Nat.testBit_two_pow_self)
  · intro h i hi
    rw [Nat.testBit_two_pow] at hi
    rw [← of_decide_eq_true hi]
    exact h
theorem three_bits {n : Nat} (h : n < 8) : n = (if n.testBit 0 then 1 else 0) + (if n.testBit 1 then 2 else 0) + (if n.testBit 2 then 4 else 0) := by
  have : n = 0 ∨ n = 1 ∨ n = 2 ∨ n = 3 ∨ n = 4 ∨ n = 5 ∨ n = 6 ∨ n = 7 := by omega
  rcases this with rfl | rfl | rfl | rfl | rfl | rfl | rfl | rfl <;> decide
theorem most_eq (c : Cr) (x : At) (dir : Bool) : mostG c x dir = mostR c x dir := by
  unfold mostG mostR stepR
  simp only [← may_eq]
  unfold mayG
  cases hv : validB c x with
  | false => simp
  | true =>
    have h : amayB x = true := by unfold validB at hv; rw [Bool.and_eq_true] at hv; exact hv.2
    have hl := orL_lt 3 (off_lt (c := c) (dir := dir) h)
    have e := three_bits hl
    simp only [orL_bit] at e
    rw [if_pos rfl, e]
    simp only [hasB_pow, Bool.true_and]
    rfl
/-- Less is granted with more; and the most has all that is granted. -/
theorem may_less {c : Cr} {x : At} {dir : Bool} {q r : Nat} (h : mayG c x dir q = true) : mayG c x dir (r &&& q) = true := by
  unfold mayG at h ⊢
  simp only [Bool.and_eq_true, decide_eq_true_eq, List.any_eq_true] at h ⊢
  obtain ⟨h1, h2, p, hp, h3⟩ := h
  exact ⟨h1, Nat.le_trans Nat.and_le_right h2, p, hp, hasB_less h3⟩
theorem may_most {c : Cr} {x : At} {dir : Bool} {q : Nat} (h : mayG c x dir q = true) : hasB (mostG c x dir) q = true := by
  unfold mayG at h
  simp only [Bool.and_eq_true, decide_eq_true_eq, List.any_eq_true] at h
  obtain ⟨h1, h2, p, hp, h3⟩ := h
  unfold mostG
  rw [if_pos h1]
  refine hasB_iff.2 fun i hi => ?_
  rw [orL_bit, List.any_eq_true]
  exact ⟨p, hp, hasB_iff.1 h3 i hi⟩
/-- Who is named. -/
def namedN (c : Cr) (x : At) : Bool := inB c x.gi || (x.ac.us.any (fun p => decide (p.id = c.ui)) || x.ac.gs.any fun p => inB c p.id)
def classN (x : Ac) : Nat := if x.hm then x.ms else x.gr
theorem class_law {c : Cr} {x : At} {dir : Bool} {q : Nat} (h0 : c.ui ≠ 0) (h1 : c.ui ≠ x.ui) (h : mayG c x dir q = true) : hasB (if namedN c x then classN x.ac else x.ac.ot) q = true := by
  have hv := h
  unfold mayG validB at hv
  simp only [Bool.and_eq_true, decide_eq_true_eq, List.any_eq_true] at hv
  obtain ⟨⟨_, ha⟩, _, p, hp, h3⟩ := hv
  obtain ⟨_, hac, _, _, _⟩ := amay_parts ha
  have hm := mayB_iff.1 hac
  unfold offL at hp
  rw [if_neg h0, if_neg h1] at hp
  have hne := perms_nil (entL x) (maskN x.ac) fun i => inB c i
  have hnu := perms_nil x.ac.us (maskN x.ac) fun i => decide (i = c.ui)
  have e2 : (entL x).any (fun p => inB c p.id) = (inB c x.gi || x.ac.gs.any fun p => inB c p.id) := rfl
  rw [e2] at hne
  have hsm : x.ac.hm = false → x.ac.us = [] ∧ x.ac.gs = [] := fun hh => ⟨List.eq_nil_of_length_eq_zero (hm.small hh).2.1, List.eq_nil_of_length_eq_zero (hm.small hh).2.2⟩
  have key : ∀ (L : List Nm) F, p ∈ permsL L (maskN x.ac) F → (x.ac.hm = false → ∀ r ∈ L, r.pm = x.ac.gr) → hasB (classN x.ac) q = true := by
    intro L F hpp hL
    unfold permsL at hpp
    rw [List.mem_map] at hpp
    obtain ⟨r, hr, rfl⟩ := hpp
    have hr2 := (List.mem_filter.1 hr).1
    unfold classN
    cases hh : x.ac.hm with
    | true =>
      unfold maskN at h3
      rw [hh] at h3
      exact (hasB_sub h3).1
    | false =>
      have := (hasB_sub h3).2
      rw [hL hh r hr2] at this
      exact this
  by_cases hu : 0 < (usL c x).length
  · rw [if_pos hu] at hp
    have hn : namedN c x = true := by
      have := hnu.1 hu
      unfold namedN
      rw [this]
      simp
    rw [if_pos hn]
    exact key _ _ hp fun hh r hr => by rw [(hsm hh).1] at hr; cases hr
  · rw [if_neg hu] at hp
    by_cases hg : 0 < (grL c x).length
    · rw [if_pos hg] at hp
      have hn : namedN c x = true := by
        have := hne.1 hg
        rw [Bool.or_eq_true] at this
        unfold namedN
        rcases this with h | h <;> rw [h] <;> simp
      rw [if_pos hn]
      refine key _ _ hp fun hh r hr => ?_
      unfold entL at hr
      rw [(hsm hh).2, List.mem_singleton] at hr
      rw [hr]
    · rw [if_neg hg, List.mem_singleton] at hp
      have hn : namedN c x = false := by
        have e1 : (x.ac.us.any fun p => decide (p.id = c.ui)) = false := by
          cases hh : (x.ac.us.any fun p => decide (p.id = c.ui)) with
          | false => rfl
          | true => exact absurd (hnu.2 hh) hu
        have e3 : (inB c x.gi || x.ac.gs.any fun p => inB c p.id) = false := by
          cases hh : (inB c x.gi || x.ac.gs.any fun p => inB c p.id) with
          | false => rfl
          | true => exact absurd (hne.2 hh) hg
        rw [Bool.or_eq_false_iff] at e3
        unfold namedN
        rw [e1, e3.1, e3.2]
        rfl
      rw [hn]
      rw [hp] at h3
      exact h3
/-- Which groups a process is in is all that is asked of them. -/
theorem off_groups {c d : Cr} (x : At) (dir : Bool) (hu : c.ui = d.ui) (hg : ∀ g, inB c g = inB d g) : offL c x dir = offL d x dir := by
  have h1 : usL c x = usL d x := by unfold usL; rw [hu]
  have h2 : grL c x = grL d x := by
    unfold grL
    rw [show (fun i => inB c i) = fun i => inB d i from funext hg]
  unfold offL
  rw [hu, h1, h2]
theorem may_groups {c d : Cr} (x : At) (dir : Bool) (q : Nat) (hu : c.ui = d.ui) (hg : ∀ g, inB c g = inB d g) (hl : c.gs.length ≤ 4 ↔ d.gs.length ≤ 4) : mayG c x dir q = mayG d x dir q := by
  unfold mayG validB
  rw [off_groups x dir hu hg, decide_eq_decide.2 hl]
theorem most_groups {c d : Cr} (x : At) (dir : Bool) (hu : c.ui = d.ui) (hg : ∀ g, inB c g = inB d g) (hl : c.gs.length ≤ 4 ↔ d.gs.length ≤ 4) : mostG c x dir = mostG d x dir := by
  unfold mostG validB
  rw [off_groups x dir hu hg, decide_eq_decide.2 hl]
/-- What is said of others counts for no owner, and nobody of the group. -/
def turnOt (x : At) (n : Nat) : At := { x with ac := { x.ac with ot := n } }
theorem other_law {c : Cr} {x : At} {dir : Bool} {q n : Nat} (h0 : c.ui ≠ 0) (h1 : inB c x.gi = true ∨ c.ui = x.ui) (hv : amayB x = amayB (turnOt x n)) : mayG c x dir q = mayG c (turnOt x n) dir q := by
  have hof : offL c x dir = offL c (turnOt x n) dir := by
    unfold offL
    rw [if_neg h0, if_neg h0]
    by_cases hu : c.ui = x.ui
    · rw [if_pos hu, if_pos (show c.ui = (turnOt x n).ui from hu)]
      rfl
    · rw [if_neg hu, if_neg (show ¬ c.ui = (turnOt x n).ui from hu)]
      have hgi : inB c x.gi = true := h1.resolve_right hu
      have e1 : usL c (turnOt x n) = usL c x := rfl
      have e2 : grL c (turnOt x n) = grL c x := rfl
      have hp : 0 < (grL c x).length := (perms_nil (entL x) (maskN x.ac) fun i => inB c i).2 (by unfold entL; rw [List.any_cons, hgi]; rfl)
      rw [e1, e2, if_pos hp, if_pos hp]
  unfold mayG validB
  rw [hof, hv]
end Go.Proofs.Ytgdiiicaljidpaa
