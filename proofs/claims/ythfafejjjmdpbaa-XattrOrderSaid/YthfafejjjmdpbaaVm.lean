/- Rows of keys and values: what comes below a key, at it, above it; what is set, and removed. No program stands here. -/
import Derived.Test.YthfafejjjmdpbaaChk
import Derived.Test.YthfafejjjmdpbaaRMay
set_option linter.unusedSimpArgs false
set_option linter.unusedVariables false
namespace Go.Proofs.Ythfafejjjmdpbaa
open Go.RowKit Go.Sort Go.Lib
/-! ### the order of keys -/
theorem bl_irr : ∀ x : List UInt8, Op.bytesLess x x = false
  | [] => rfl
  | a :: x => by simp [Op.bytesLess, bl_irr x]
theorem bl_asymm : ∀ x y : List UInt8, Op.bytesLess x y = true → Op.bytesLess y x = false
  | _, [], h => by simp [Op.bytesLess] at h
  | [], _ :: _, _ => rfl
  | a :: x, b :: y, h => by
    simp only [Op.bytesLess, Bool.or_eq_true, Bool.and_eq_true, decide_eq_true_eq, beq_iff_eq, Bool.or_eq_false_iff, decide_eq_false_iff_not] at h ⊢
    rcases h with h | ⟨rfl, h⟩
    · refine ⟨UInt8.lt_asymm h, ?_⟩
      have : ¬ b = a := fun e => by subst e; exact absurd h (UInt8.lt_irrefl _)
      simp [this]
    · exact ⟨UInt8.lt_irrefl _, by simp [bl_asymm x y h]⟩
theorem bl_trans : ∀ x y z : List UInt8, Op.bytesLess x y = true → Op.bytesLess y z = true → Op.bytesLess x z = true
  | _, [], _, h, _ => by simp [Op.bytesLess] at h
  | _, _ :: _, [], _, h => by simp [Op.bytesLess] at h
  | [], _ :: _, _ :: _, _, _ => rfl
  | a :: x, b :: y, c :: z, h, k => by
    simp only [Op.bytesLess, Bool.or_eq_true, Bool.and_eq_true, decide_eq_true_eq, beq_iff_eq] at h k ⊢
    rcases h with h | ⟨rfl, h⟩
    · rcases k with k | ⟨rfl, k⟩
      · exact .inl (UInt8.lt_trans h k)
      · exact .inl h
    · rcases k with k | ⟨rfl, k⟩
      · exact .inl k
      · exact .inr ⟨rfl, bl_trans x y z h k⟩
theorem bl_tri : ∀ x y : List UInt8, Op.bytesLess x y = false → Op.bytesLess y x = false → x = y
  | [], [], _, _ => rfl
  | _ :: _, [], _, h => by simp [Op.bytesLess] at h
  | [], _ :: _, h, _ => by simp [Op.bytesLess] at h
  | a :: x, b :: y, h, k => by
    simp only [Op.bytesLess, Bool.or_eq_false_iff, decide_eq_false_iff_not, Bool.and_eq_false_iff, beq_eq_false_iff_ne] at h k
    have e : a = b := UInt8.le_antisymm (UInt8.not_lt.1 k.1) (UInt8.not_lt.1 h.1)
    subst e
    rw [bl_tri x y (by simpa using h.2) (by simpa using k.2)]
theorem ltS_irr (a : ByteArray) : ltS a a = false := bl_irr _
theorem ltS_asymm {a b : ByteArray} (h : ltS a b = true) : ltS b a = false := bl_asymm _ _ h
theorem ltS_trans {a b c : ByteArray} (h : ltS a b = true) (k : ltS b c = true) : ltS a c = true := bl_trans _ _ _ h k
theorem ltS_tri {a b : ByteArray} (h : ltS a b = false) (k : ltS b a = false) : a = b := ba_toList.1 (bl_tri _ _ h k)
theorem ltS_ne {a b : ByteArray} (h : ltS a b = true) : a ≠ b := fun e => by subst e; rw [ltS_irr] at h; cases h
theorem ltS_ne' {a b : ByteArray} (h : ltS a b = true) : b ≠ a := fun e => ltS_ne h e.symm
theorem cmp_bl : ∀ x y : List UInt8, (compareBytes x y < 0 ↔ Op.bytesLess x y = true) ∧ (compareBytes x y = 0 ↔ x = y)
  | [], [] => by simp [compareBytes, Op.bytesLess]
  | _ :: _, [] => by simp [compareBytes, Op.bytesLess]
  | [], _ :: _ => by simp [compareBytes, Op.bytesLess]
  | a :: x, b :: y => by
    obtain ⟨h1, h2⟩ := cmp_bl x y
    simp only [compareBytes, Op.bytesLess, Bool.or_eq_true, Bool.and_eq_true, decide_eq_true_eq, beq_iff_eq, List.cons.injEq]
    by_cases hab : a < b
    · have : ¬ a = b := fun e => by subst e; exact absurd hab (UInt8.lt_irrefl _)
      simp [hab, this]
    · by_cases hba : b < a
      · have : ¬ a = b := fun e => by subst e; exact absurd hba (UInt8.lt_irrefl _)
        simp [hab, hba, this]
      · have e : a = b := UInt8.le_antisymm (UInt8.not_lt.1 hba) (UInt8.not_lt.1 hab)
        subst e
        simp [hab, h1, h2]
theorem bdata (a : ByteArray) : a.toList = a.data.toList := ByteArray.toList_eq a
/-- What the comparison says. -/
def cmpS (a b : ByteArray) : Int := compareBytes a.data.toList b.data.toList
theorem cmpS_lt {a b : ByteArray} : cmpS a b < 0 ↔ ltS a b = true := by unfold cmpS ltS; rw [(cmp_bl _ _).1, bdata, bdata]
theorem cmpS_eq {a b : ByteArray} : cmpS a b = 0 ↔ a = b := by unfold cmpS; rw [(cmp_bl _ _).2, ← bdata, ← bdata, ba_toList]
/-! ### rows that rise -/
theorem rise_lt {L : List Xt} (h : XRise L L.length) : ∀ (d i : Nat) p q, L[i]? = some p → L[i + d + 1]? = some q → ltS p.key q.key = true := by
  intro d
  induction d with
  | zero => exact fun i p q hp hq => h.up i p q (List.getElem?_eq_some_iff.1 hq).1 hp hq
  | succ d ih =>
    intro i p q hp hq
    have hl := (List.getElem?_eq_some_iff.1 hq).1
    obtain ⟨r, hr⟩ : ∃ r, L[i + d + 1]? = some r := ⟨_, List.getElem?_eq_getElem (by omega)⟩
    exact ltS_trans (ih i p r hp hr) (h.up (i + d + 1) r q hl hr hq)
/-- It rises. -/
def Up (L : List Xt) : Prop := L.Pairwise fun p q => ltS p.key q.key = true
theorem up_of {L : List Xt} (h : XRise L L.length) : Up L := by
  unfold Up
  rw [List.pairwise_iff_getElem]
  intro i j hi hj hij
  obtain ⟨d, rfl⟩ : ∃ d, j = i + d + 1 := ⟨j - i - 1, by omega⟩
  exact rise_lt h d i _ _ (List.getElem?_eq_getElem hi) (List.getElem?_eq_getElem hj)
theorem xsB_up_iff {L : List Xt} : xsB L = true ↔ (∀ p ∈ L, keyB p.key = true ∧ p.val.size ≤ 16) ∧ Up L ∧ L.length ≤ 4 := by
  rw [xsB_iff]
  constructor
  · rintro ⟨h, h4⟩
    refine ⟨fun p hp => ?_, up_of h, h4⟩
    obtain ⟨k, hk⟩ := List.getElem?_of_mem hp
    have hl := (List.getElem?_eq_some_iff.1 hk).1
    exact ⟨h.ky k p hl hk, h.vl k p hl hk⟩
  · rintro ⟨h1, h2, h4⟩
    refine ⟨⟨fun j p _ hp => (h1 p (List.mem_of_getElem? hp)).1, fun j p _ hp => (h1 p (List.mem_of_getElem? hp)).2, fun j p q _ hp hq => ?_⟩, h4⟩
    unfold Up at h2
    rw [List.pairwise_iff_getElem] at h2
    have hl := (List.getElem?_eq_some_iff.1 hq).1
    have := h2 j (j + 1) (by omega) hl (by omega)
    rw [List.getElem?_eq_getElem (by omega)] at hp
    rw [List.getElem?_eq_getElem hl] at hq
    injection hp with hp
    injection hq with hq
    rw [hp, hq] at this
    exact this
/-! ### its three parts -/
def loL (L : List Xt) (k : ByteArray) : List Xt := L.filter fun p => ltS p.key k
def smL (L : List Xt) (k : ByteArray) : List Xt := L.filter fun p => decide (p.key = k)
def hiL (L : List Xt) (k : ByteArray) : List Xt := L.filter fun p => ltS k p.key
def hasB (L : List Xt) (k : ByteArray) : Bool := L.any fun p => decide (p.key = k)
def setL (L : List Xt) (k v : ByteArray) : List Xt := loL L k ++ ⟨k, v⟩ :: hiL L k
def remL (L : List Xt) (k : ByteArray) : List Xt := loL L k ++ hiL L k
def getV (L : List Xt) (k : ByteArray) : ByteArray := match smL L k with
  | p :: _ => p.val
  | [] => ⟨#[]⟩
theorem hasB_no {L : List Xt} {k : ByteArray} : hasB L k = false ↔ smL L k = [] := by
  unfold hasB smL
  rw [List.filter_eq_nil_iff, List.any_eq_false]
theorem parts {L : List Xt} {k : ByteArray} (h : Up L) : L = loL L k ++ (smL L k ++ hiL L k) ∧ (smL L k).length ≤ 1 := by
  unfold loL smL hiL
  induction L with
  | nil => exact ⟨rfl, by simp⟩
  | cons p r ih =>
    obtain ⟨hp, hr⟩ := List.pairwise_cons.1 h
    obtain ⟨e, hl⟩ := ih hr
    cases h1 : ltS p.key k
    case true =>
      have h2 := ltS_asymm h1
      have h3 := ltS_ne h1
      simp only [List.filter_cons, h1, h2, h3, if_true, Bool.false_eq_true, if_false, decide_false, List.cons_append]
      exact ⟨by rw [← e], hl⟩
    case false =>
      cases h2 : ltS k p.key
      case true =>
        have h3 := ltS_ne' h2
        have all : ∀ q ∈ r, ltS k q.key = true := fun q hq => ltS_trans h2 (hp q hq)
        have e1 : r.filter (fun p => ltS p.key k) = [] := List.filter_eq_nil_iff.2 fun q hq => by rw [ltS_asymm (all q hq)]; simp
        have e2 : r.filter (fun p => decide (p.key = k)) = [] := List.filter_eq_nil_iff.2 fun q hq => by rw [decide_eq_false (ltS_ne' (all q hq))]; simp
        have e3 : r.filter (fun p => ltS k p.key) = r := List.filter_eq_self.2 all
        simp only [List.filter_cons, h1, h2, h3, if_true, Bool.false_eq_true, if_false, decide_false, e1, e2, e3]
        exact ⟨rfl, by simp⟩
      case false =>
        have h3 : p.key = k := ltS_tri h1 h2
        have all : ∀ q ∈ r, ltS k q.key = true := fun q hq => by rw [← h3]; exact hp q hq
        have e1 : r.filter (fun p => ltS p.key k) = [] := List.filter_eq_nil_iff.2 fun q hq => by rw [ltS_asymm (all q hq)]; simp
        have e2 : r.filter (fun p => decide (p.key = k)) = [] := List.filter_eq_nil_iff.2 fun q hq => by rw [decide_eq_false (ltS_ne' (all q hq))]; simp
        have e3 : r.filter (fun p => ltS k p.key) = r := List.filter_eq_self.2 all
        simp only [List.filter_cons, h3, ltS_irr, if_true, Bool.false_eq_true, if_false, decide_true, e1, e2, e3]
        exact ⟨rfl, by simp⟩
theorem one_part {L : List Xt} {k : ByteArray} (h : Up L) (hk : hasB L k = true) : smL L k = [⟨k, getV L k⟩] := by
  have hl := (parts (k := k) h).2
  unfold getV
  cases e : smL L k with
  | nil => rw [hasB_no.2 e] at hk; cases hk
  | cons p r =>
    rw [e] at hl
    have hr : r = [] := List.eq_nil_of_length_eq_zero (by simpa using hl)
    subst hr
    have hp : p ∈ smL L k := by rw [e]; simp
    unfold smL at hp
    have := (List.mem_filter.1 hp).2
    rw [decide_eq_true_eq] at this
    cases p
    simp only at this
    subst this
    rfl
theorem length_set {L : List Xt} {k v : ByteArray} (h : Up L) : (setL L k v).length = if hasB L k then L.length else L.length + 1 := by
  have e := congrArg List.length (parts (k := k) h).1
  unfold setL
  cases hk : hasB L k
  · rw [hasB_no.1 hk] at e
    simp only [List.length_append, List.length_cons, List.length_nil, Bool.false_eq_true, if_false] at e ⊢
    omega
  · rw [one_part h hk] at e
    simp only [List.length_append, List.length_cons, List.length_nil, if_true] at e ⊢
    omega
theorem length_rem {L : List Xt} {k : ByteArray} (h : Up L) : (remL L k).length ≤ L.length := by
  have e := congrArg List.length (parts (k := k) h).1
  unfold remL
  simp only [List.length_append] at e ⊢
  omega
theorem mem_lo {L : List Xt} {k : ByteArray} {p : Xt} : p ∈ loL L k ↔ p ∈ L ∧ ltS p.key k = true := List.mem_filter
theorem mem_hi {L : List Xt} {k : ByteArray} {p : Xt} : p ∈ hiL L k ↔ p ∈ L ∧ ltS k p.key = true := List.mem_filter
theorem up_rem {L : List Xt} {k : ByteArray} (h : Up L) : Up (remL L k) :=
  List.pairwise_append.2 ⟨h.filter _, h.filter _, fun p hp q hq => ltS_trans (mem_lo.1 hp).2 (mem_hi.1 hq).2⟩
theorem up_set {L : List Xt} {k v : ByteArray} (h : Up L) : Up (setL L k v) :=
  List.pairwise_append.2 ⟨h.filter _, List.pairwise_cons.2 ⟨fun q hq => (mem_hi.1 hq).2, h.filter _⟩, fun p hp q hq => by
    rcases List.mem_cons.1 hq with rfl | hq
    · exact (mem_lo.1 hp).2
    · exact ltS_trans (mem_lo.1 hp).2 (mem_hi.1 hq).2⟩
theorem xsB_rem {L : List Xt} {k : ByteArray} (h : xsB L = true) : xsB (remL L k) = true := by
  obtain ⟨h1, h2, h4⟩ := xsB_up_iff.1 h
  refine xsB_up_iff.2 ⟨fun p hp => ?_, up_rem h2, Nat.le_trans (length_rem h2) h4⟩
  rcases List.mem_append.1 hp with hp | hp
  · exact h1 p (mem_lo.1 hp).1
  · exact h1 p (mem_hi.1 hp).1
theorem xsB_set {L : List Xt} {k v : ByteArray} (h : xsB L = true) (hk : keyB k = true) (hv : v.size ≤ 16) (hr : hasB L k = true ∨ L.length < 4) : xsB (setL L k v) = true := by
  obtain ⟨h1, h2, h4⟩ := xsB_up_iff.1 h
  refine xsB_up_iff.2 ⟨fun p hp => ?_, up_set h2, ?_⟩
  · rcases List.mem_append.1 hp with hp | hp
    · exact h1 p (mem_lo.1 hp).1
    · rcases List.mem_cons.1 hp with rfl | hp
      · exact ⟨hk, hv⟩
      · exact h1 p (mem_hi.1 hp).1
  · rw [length_set h2]
    rcases hr with hr | hr
    · rw [hr]; exact h4
    · split <;> omega
/-! ### other keys -/
theorem sm_of_lo {L : List Xt} {k o : ByteArray} (h : ltS o k = true) : smL (loL L k) o = smL L o := by
  unfold smL loL
  rw [List.filter_filter]
  apply List.filter_congr
  intro p _
  by_cases e : p.key = o
  · rw [e, h]; simp
  · simp [e]
theorem sm_of_hi {L : List Xt} {k o : ByteArray} (h : ltS k o = true) : smL (hiL L k) o = smL L o := by
  unfold smL hiL
  rw [List.filter_filter]
  apply List.filter_congr
  intro p _
  by_cases e : p.key = o
  · rw [e, h]; simp
  · simp [e]
theorem sm_lo_no {L : List Xt} {k o : ByteArray} (h : ltS o k = false) : smL (loL L k) o = [] := by
  unfold smL
  rw [List.filter_eq_nil_iff]
  intro p hp
  rw [decide_eq_true_eq]
  rintro rfl
  rw [(mem_lo.1 hp).2] at h
  cases h
theorem sm_hi_no {L : List Xt} {k o : ByteArray} (h : ltS k o = false) : smL (hiL L k) o = [] := by
  unfold smL
  rw [List.filter_eq_nil_iff]
  intro p hp
  rw [decide_eq_true_eq]
  rintro rfl
  rw [(mem_hi.1 hp).2] at h
  cases h
theorem sm_append (L M : List Xt) (o : ByteArray) : smL (L ++ M) o = smL L o ++ smL M o := List.filter_append _ _
theorem sm_cons_ne {x k v : ByteArray} (L : List Xt) (h : k ≠ x) : smL (⟨k, v⟩ :: L) x = smL L x := by
  unfold smL
  rw [List.filter_cons_of_neg (by simpa using h)]
theorem sm_cons_eq {k v : ByteArray} (L : List Xt) : smL (⟨k, v⟩ :: L) k = ⟨k, v⟩ :: smL L k := by
  unfold smL
  rw [List.filter_cons_of_pos (by simp)]
theorem sm_set_ne {L : List Xt} {k v o : ByteArray} (h : k ≠ o) : smL (setL L k v) o = smL L o := by
  unfold setL
  rw [sm_append, sm_cons_ne _ h]
  cases h1 : ltS o k
  · rw [sm_lo_no h1]
    cases h2 : ltS k o
    · exact absurd (ltS_tri h2 h1) h
    · rw [sm_of_hi h2]; rfl
  · rw [sm_of_lo h1, sm_hi_no (ltS_asymm h1), List.append_nil]
theorem sm_set_eq {L : List Xt} {k v : ByteArray} : smL (setL L k v) k = [⟨k, v⟩] := by
  unfold setL
  rw [sm_append, sm_cons_eq, sm_lo_no (ltS_irr k), sm_hi_no (ltS_irr k)]
  rfl
theorem sm_rem_ne {L : List Xt} {k o : ByteArray} (h : k ≠ o) : smL (remL L k) o = smL L o := by
  unfold remL
  rw [sm_append]
  cases h1 : ltS o k
  · rw [sm_lo_no h1]
    cases h2 : ltS k o
    · exact absurd (ltS_tri h2 h1) h
    · rw [sm_of_hi h2]; rfl
  · rw [sm_of_lo h1, sm_hi_no (ltS_asymm h1), List.append_nil]
theorem hasB_of {L M : List Xt} {o p : ByteArray} (h : smL L o = smL M p) : hasB L o = hasB M p := by
  cases h1 : hasB L o
  · rw [hasB_no] at h1
    symm
    rw [hasB_no, ← h, h1]
  · cases h2 : hasB M p
    · rw [hasB_no, ← h, ← hasB_no, h1] at h2
      cases h2
    · rfl
theorem getV_of {L M : List Xt} {o p : ByteArray} (h : smL L o = smL M p) : getV L o = getV M p := by
  unfold getV
  rw [h]
theorem getV_set {L : List Xt} {k v : ByteArray} : getV (setL L k v) k = v := by
  unfold getV
  rw [sm_set_eq]
theorem hasB_set {L : List Xt} {k v : ByteArray} : hasB (setL L k v) k = true := by
  cases h : hasB (setL L k v) k
  · rw [hasB_no, sm_set_eq] at h; cases h
  · rfl
theorem lo_append (L M : List Xt) (o : ByteArray) : loL (L ++ M) o = loL L o ++ loL M o := List.filter_append _ _
theorem hi_append (L M : List Xt) (o : ByteArray) : hiL (L ++ M) o = hiL L o ++ hiL M o := List.filter_append _ _
theorem lo_lo {L : List Xt} {a b : ByteArray} (h : ltS a b = true) : loL (loL L a) b = loL L a :=
  List.filter_eq_self.2 fun p hp => ltS_trans (mem_lo.1 hp).2 h
theorem lo_lo' {L : List Xt} {a b : ByteArray} (h : ltS a b = true) : loL (loL L b) a = loL L a := by
  unfold loL
  rw [List.filter_filter]
  apply List.filter_congr
  intro p _
  cases h1 : ltS p.key a
  · rfl
  · rw [ltS_trans h1 h]; rfl
theorem hi_hi {L : List Xt} {a b : ByteArray} (h : ltS a b = true) : hiL (hiL L b) a = hiL L b :=
  List.filter_eq_self.2 fun p hp => ltS_trans h (mem_hi.1 hp).2
theorem hi_hi' {L : List Xt} {a b : ByteArray} (h : ltS a b = true) : hiL (hiL L a) b = hiL L b := by
  unfold hiL
  rw [List.filter_filter]
  apply List.filter_congr
  intro p _
  cases h1 : ltS b p.key
  · rfl
  · rw [ltS_trans h h1]; rfl
theorem hi_lo_no {L : List Xt} {a b : ByteArray} (h : ltS a b = true) : hiL (loL L a) b = [] :=
  List.filter_eq_nil_iff.2 fun p hp => by rw [ltS_asymm (ltS_trans (mem_lo.1 hp).2 h)]; simp
theorem lo_hi_no {L : List Xt} {a b : ByteArray} (h : ltS a b = true) : loL (hiL L b) a = [] :=
  List.filter_eq_nil_iff.2 fun p hp => by rw [ltS_asymm (ltS_trans h (mem_hi.1 hp).2)]; simp
theorem lo_hi {L : List Xt} {a b : ByteArray} : loL (hiL L a) b = hiL (loL L b) a := by
  unfold loL hiL
  rw [List.filter_filter, List.filter_filter]
  apply List.filter_congr
  intro p _
  rw [Bool.and_comm]
theorem lo_cons_yes {p : Xt} {k : ByteArray} (L : List Xt) (h : ltS p.key k = true) : loL (p :: L) k = p :: loL L k := List.filter_cons_of_pos h
theorem lo_cons_no {p : Xt} {k : ByteArray} (L : List Xt) (h : ltS p.key k = false) : loL (p :: L) k = loL L k := List.filter_cons_of_neg (by rw [h]; simp)
theorem hi_cons_yes {p : Xt} {k : ByteArray} (L : List Xt) (h : ltS k p.key = true) : hiL (p :: L) k = p :: hiL L k := List.filter_cons_of_pos h
theorem hi_cons_no {p : Xt} {k : ByteArray} (L : List Xt) (h : ltS k p.key = false) : hiL (p :: L) k = hiL L k := List.filter_cons_of_neg (by rw [h]; simp)
theorem set_set_lt {L : List Xt} {a b v w : ByteArray} (h : ltS a b = true) : setL (setL L a v) b w = setL (setL L b w) a v := by
  unfold setL
  rw [lo_append, hi_append, lo_append, hi_append, lo_lo h, hi_lo_no h, lo_cons_yes _ h, hi_cons_no _ (ltS_asymm h), hi_hi' h, lo_lo' h, hi_cons_yes _ h, lo_cons_no _ (ltS_asymm h), lo_hi_no h, hi_hi h, lo_hi]
  simp
theorem set_set {L : List Xt} {a b v w : ByteArray} (h : a ≠ b) : setL (setL L a v) b w = setL (setL L b w) a v := by
  cases h1 : ltS a b
  · cases h2 : ltS b a
    · exact absurd (ltS_tri h1 h2) h
    · exact (set_set_lt h2).symm
  · exact set_set_lt h1
/-- What is set, and removed, is as it was, if the key was not there. -/
theorem rem_set {L : List Xt} {k v : ByteArray} (h : Up L) (hk : hasB L k = false) : remL (setL L k v) k = L := by
  have e1 : loL (setL L k v) k = loL L k := by
    unfold setL
    rw [lo_append, lo_cons_no (p := ⟨k, v⟩) _ (ltS_irr k)]
    have e2 : loL (hiL L k) k = [] := List.filter_eq_nil_iff.2 fun p hp => by rw [ltS_asymm (mem_hi.1 hp).2]; simp
    have e3 : loL (loL L k) k = loL L k := List.filter_eq_self.2 fun p hp => (mem_lo.1 hp).2
    rw [e2, e3, List.append_nil]
  have e4 : hiL (setL L k v) k = hiL L k := by
    unfold setL
    rw [hi_append, hi_cons_no (p := ⟨k, v⟩) _ (ltS_irr k)]
    have e2 : hiL (loL L k) k = [] := List.filter_eq_nil_iff.2 fun p hp => by rw [ltS_asymm (mem_lo.1 hp).2]; simp
    have e3 : hiL (hiL L k) k = hiL L k := List.filter_eq_self.2 fun p hp => (mem_hi.1 hp).2
    rw [e2, e3, List.nil_append]
  have e5 := (parts (k := k) h).1
  rw [hasB_no.1 hk, List.nil_append] at e5
  unfold remL
  rw [e1, e4]
  exact e5.symm
/-! ### the errors -/
def keyN (s : ByteArray) : Int := if s.size = 0 ∨ ¬ Lib.indexByte s.data.toList 0 < 0 then 622 else if 8 < s.size then 634 else 0
theorem keyN_iff {s : ByteArray} : keyN s = 0 ↔ keyB s = true := by
  unfold keyN keyB
  rw [Bool.and_eq_true, Bool.and_eq_true, decide_eq_true_eq, decide_eq_true_eq, decide_eq_true_eq]
  by_cases h1 : s.size = 0
  · simp [h1]
  · by_cases h2 : Lib.indexByte s.data.toList 0 < 0
    · by_cases h3 : 8 < s.size
      · simp [h1, h2, h3]
      · simp only [h1, h2, h3, not_true, or_self, if_false, true_iff]
        exact ⟨by omega, by omega, trivial⟩
    · simp [h1, h2]
theorem keyN_ge (s : ByteArray) : 0 ≤ keyN s ∧ keyN s ≤ 634 := by unfold keyN; split <;> (try split) <;> omega
def misN (k v : ByteArray) (how : Int) : Int := if 2 < how then 622 else if keyN k ≠ 0 then keyN k else if 16 < v.size then 634 else 0
def barN (how : Int) (has : Bool) (n : Nat) : Int :=
  if how = 1 ∧ has = true then 617 else if (how = 1 ∨ how = 0) ∧ has = false ∧ 4 ≤ n then 628 else if how = 2 ∧ has = false then 661 else 0
def setN (L : List Xt) (k v : ByteArray) (how : Int) : Int :=
  if xsB L = false then 622 else if misN k v how ≠ 0 then misN k v how else barN how (hasB L k) L.length
def getN (L : List Xt) (k : ByteArray) : Int := if xsB L = false then 622 else if keyN k ≠ 0 then keyN k else if hasB L k = false then 661 else 0
def setR (L : List Xt) (k v : ByteArray) (how : Int) : List Xt := if setN L k v how = 0 then setL L k v else []
def remR (L : List Xt) (k : ByteArray) : List Xt := if getN L k = 0 then remL L k else []
def getR (L : List Xt) (k : ByteArray) : ByteArray := if getN L k = 0 then getV L k else ⟨#[]⟩
theorem setN_zero {L : List Xt} {k v : ByteArray} {how : Int} : setN L k v how = 0 ↔ xsB L = true ∧ how ≤ 2 ∧ keyN k = 0 ∧ v.size ≤ 16 ∧ barN how (hasB L k) L.length = 0 := by
  unfold setN misN
  cases xsB L
  · simp
  · simp only [Bool.true_eq_false, if_false, true_and]
    by_cases h1 : 2 < how
    · simp [h1, Int.not_le.2 h1]
    · by_cases h2 : keyN k = 0
      · by_cases h3 : 16 < v.size
        · simp [h1, h2, h3, Nat.not_le.2 h3]
        · simp [h1, h2, h3, Int.not_lt.1 h1, Nat.not_lt.1 h3]
      · simp [h1, h2]
theorem getN_zero {L : List Xt} {k : ByteArray} : getN L k = 0 ↔ xsB L = true ∧ keyN k = 0 ∧ hasB L k = true := by
  unfold getN
  cases xsB L
  · simp
  · by_cases h2 : keyN k = 0
    · cases hasB L k <;> simp [h2]
    · simp [h2]
/-- What was set may be. -/
theorem set_may {L : List Xt} {k v : ByteArray} {how : Int} (h0 : 0 ≤ how) (h : setN L k v how = 0) : xsB (setL L k v) = true := by
  obtain ⟨h1, h2, h3, h4, h5⟩ := setN_zero.1 h
  refine xsB_set h1 (keyN_iff.1 h3) h4 ?_
  cases hk : hasB L k
  · right
    rw [hk] at h5
    unfold barN at h5
    simp only [Bool.false_eq_true, and_false, if_false, true_and, and_true] at h5
    by_cases h6 : (how = 1 ∨ how = 0) ∧ 4 ≤ L.length
    · rw [if_pos h6] at h5; cases h5
    · rw [if_neg h6] at h5
      by_cases h7 : how = 2
      · rw [if_pos h7] at h5; cases h5
      · omega
  · exact .inl rfl
/-- Values under two keys, in either order. -/
theorem barN_zero {b : Bool} {n : Nat} : barN 0 b n = if b = false ∧ 4 ≤ n then 628 else 0 := by
  unfold barN
  simp
theorem order_err {L : List Xt} {a b v w : ByteArray} (hab : a ≠ b) (h1 : setN L a v 0 = 0) (h2 : setN L b w 0 = 0) : setN (setL L a v) b w 0 = setN (setL L b w) a v 0 := by
  have m1 := set_may (by decide) h1
  have m2 := set_may (by decide) h2
  obtain ⟨k1, _, k3, k4, k5⟩ := setN_zero.1 h1
  obtain ⟨_, _, j3, j4, j5⟩ := setN_zero.1 h2
  have up := (xsB_up_iff.1 k1).2.1
  have f1 : misN a v 0 = 0 := by unfold misN; simp [k3]; omega
  have f2 : misN b w 0 = 0 := by unfold misN; simp [j3]; omega
  have e1 : hasB (setL L a v) b = hasB L b := hasB_of (sm_set_ne hab)
  have e2 : hasB (setL L b w) a = hasB L a := hasB_of (sm_set_ne hab.symm)
  have l1 := length_set (k := a) (v := v) up
  have l2 := length_set (k := b) (v := w) up
  rw [barN_zero] at k5 j5
  unfold setN
  rw [m1, m2, f1, f2, e1, e2, l1, l2, barN_zero, barN_zero]
  cases ha : hasB L a <;> cases hb : hasB L b <;> simp_all
theorem order_rows {L : List Xt} {a b v w : ByteArray} (hab : a ≠ b) (h1 : setN L a v 0 = 0) (h2 : setN L b w 0 = 0) : setR (setL L a v) b w 0 = setR (setL L b w) a v 0 := by
  unfold setR
  rw [order_err hab h1 h2, set_set hab]
/-- What was set is got. -/
theorem get_set {L : List Xt} {k v : ByteArray} {how : Int} (h0 : 0 ≤ how) (h : setN L k v how = 0) : getN (setL L k v) k = 0 ∧ getR (setL L k v) k = v := by
  have e : getN (setL L k v) k = 0 := getN_zero.2 ⟨set_may h0 h, (setN_zero.1 h).2.2.1, hasB_set⟩
  refine ⟨e, ?_⟩
  unfold getR
  rw [if_pos e, getV_set]
/-- No other key's value changes. -/
theorem get_other {L M : List Xt} {o : ByteArray} (h1 : xsB L = true) (h2 : xsB M = true) (h : smL M o = smL L o) : getN M o = getN L o ∧ getR M o = getR L o := by
  have e : getN M o = getN L o := by unfold getN; rw [h1, h2, hasB_of h]
  refine ⟨e, ?_⟩
  unfold getR
  rw [e, getV_of h]
end Go.Proofs.Ythfafejjjmdpbaa
