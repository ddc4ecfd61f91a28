/- What is begun, as lists: its group, its list, its bits. No program stands here. -/
import Derived.Test.YtgdiiicaljidpaaOm
set_option linter.unusedSimpArgs false
set_option linter.unusedVariables false
set_option linter.unusedSimpArgs false
set_option linter.unusedVariables false
namespace Go.Proofs.Ytgdiiicaljidpaa
/-- Something of kind k may be begun. -/
def begB (c : Cr) (x : At) (k : Nat) : Bool := validB c x && (decide (1 ≤ k) && decide (k ≤ 3))
def gidN (c : Cr) (x : At) : Nat := if x.bi &&& 2 = 0 then c.gi else x.gi
/-- The list without the bits that the mode lacks. -/
def cutA (l : Ac) (m : Nat) : Ac :=
  ⟨l.ow &&& (m / 64 % 8), (if l.hm then l.gr else l.gr &&& (m / 8 % 8)), l.ot &&& (m % 8), l.us, l.gs, l.hm, (if l.hm then l.ms &&& (m / 8 % 8) else l.ms)⟩
def offW (m u : Nat) : Nat := m &&& (65535 - u)
def accA (x : At) (u m : Nat) : Ac := if x.hd then cutA x.df m else ofA (offW m u)
/-- Its bits, where its group is g. -/
def setB (c : Cr) (x : At) (k g m : Nat) : Nat :=
  if k = 2 then (m / 512 % 8 &&& 1) ||| (x.bi &&& 2) else if (decide (c.ui = 0) || inB c g) then m / 512 % 8 else offN (m / 512 % 8) 2
/-- A link; what has a list, and bits. -/
def linkX (c : Cr) (x : At) : At := ⟨0, c.ui, gidN c x, ofA 511, false, acZ, []⟩
def newX (c : Cr) (u : Nat) (x : At) (k m : Nat) : At :=
  if k = 3 then linkX c x
  else if k = 2 then ⟨setB c x 2 (gidN c x) m, c.ui, gidN c x, accA x u m, x.hd, x.df, []⟩
  else ⟨setB c x 1 (gidN c x) m, c.ui, gidN c x, accA x u m, false, acZ, []⟩
def newA (c : Cr) (u : Nat) (x : At) (k m : Nat) : At := if begB c x k then newX c u x k m else atZ
def newN (c : Cr) (x : At) (k : Nat) : Int := if begB c x k then 0 else 622
theorem and_low : ∀ a < 8, ∀ q < 256, a &&& q = a &&& (q % 8) := by decide +kernel
theorem and_le (a b : Nat) : a &&& b ≤ a := Nat.and_le_left
theorem beg_parts {c : Cr} {x : At} {k : Nat} (h : begB c x k = true) : validB c x = true ∧ 1 ≤ k ∧ k ≤ 3 := by
  unfold begB at h
  rw [Bool.and_eq_true, Bool.and_eq_true, decide_eq_true_eq, decide_eq_true_eq] at h
  exact ⟨h.1, h.2.1, h.2.2⟩
theorem offW_lt (m u : Nat) (hm : m < 65536) : offW m u < 65536 := Nat.lt_of_le_of_lt Nat.and_le_left hm
theorem may_of (b : Nat) : mayB (ofA b) = true := mayB_iff.2 ⟨by simp only [ofA]; omega, by simp only [ofA]; omega, by simp only [ofA]; omega, by simp only [ofA]; omega, namedB_nil, namedB_nil, fun _ => ⟨rfl, rfl, rfl⟩⟩
theorem may_cut {l : Ac} (h : mayB l = true) (m : Nat) : mayB (cutA l m) = true := by
  have hm := mayB_iff.1 h
  have h1 := hm.ow
  have h2 := hm.gr
  have h3 := hm.ot
  have h4 := hm.ms
  have k1 := and_le l.ow (m / 64 % 8)
  have k2 := and_le l.gr (m / 8 % 8)
  have k3 := and_le l.ot (m % 8)
  have k4 := and_le l.ms (m / 8 % 8)
  refine mayB_iff.2 ⟨by simp only [cutA]; omega, by simp only [cutA]; split <;> omega, by simp only [cutA]; omega, by simp only [cutA]; split <;> omega, hm.us, hm.gs, fun hf => ?_⟩
  have hf' : l.hm = false := hf
  obtain ⟨q1, q2, q3⟩ := hm.small hf'
  refine ⟨?_, q2, q3⟩
  simp only [cutA, hf']
  simpa using q1
theorem may_acc {x : At} (h : amayB x = true) (u m : Nat) : mayB (accA x u m) = true := by
  obtain ⟨_, _, h3, _, _⟩ := amay_parts h
  unfold accA
  split
  · exact may_cut h3 m
  · exact may_of _
theorem bits_two : ∀ a < 8, ∀ b < 8, (a &&& 1) ||| (b &&& 2) < 8 := by decide
theorem setB_lt (c : Cr) {x : At} (hx : x.bi < 8) (k g m : Nat) : setB c x k g m < 8 := by
  have h8 : m / 512 % 8 < 8 := Nat.mod_lt _ (by decide)
  unfold setB
  split
  · exact bits_two _ h8 _ hx
  · split
    · exact h8
    · exact Nat.lt_of_le_of_lt (off_le _ _) h8
theorem xsB_nil : xsB [] = true := by decide +kernel
theorem defB_nil : defB false acZ = true := by
  unfold defB
  show (mayB acZ && (false || sameB acZ acZ)) = true
  rw [mayB_acZ, sameB_self]; rfl
theorem may_newX {c : Cr} {x : At} (h : amayB x = true) (u k m : Nat) : amayB (newX c u x k m) = true := by
  obtain ⟨_, _, h3, _⟩ := amay_all h
  have hb := may8 h
  have h2 := setB_lt c hb 2 (gidN c x) m
  have h1 := setB_lt c hb 1 (gidN c x) m
  unfold newX
  split
  · exact amay_of (by show (0 : Nat) ≤ 7; omega) (may_of _) defB_nil xsB_nil
  · split
    · exact amay_of (by show setB c x 2 (gidN c x) m ≤ 7; omega) (may_acc h u m) h3 xsB_nil
    · exact amay_of (by show setB c x 1 (gidN c x) m ≤ 7; omega) (may_acc h u m) defB_nil xsB_nil
theorem may_atZ : amayB atZ = true := amay_of (by decide) mayB_acZ defB_nil xsB_nil
theorem may_newA (c : Cr) (u : Nat) (x : At) (k m : Nat) : amayB (newA c u x k m) = true := by
  unfold newA
  cases hb : begB c x k
  · exact may_atZ
  · exact may_newX (valid_parts (beg_parts hb).1).2 u k m
/-- What its keys are no longer than. -/
abbrev Ks (x : At) : Prop := ∀ (k : Nat) q, x.xs[k]? = some q → q.key.size ≤ 1099511627776
theorem ks_may {x : At} (h : amayB x = true) : Ks x := fun k q hk => by
  obtain ⟨_, _, _, _, h5⟩ := amay_parts h
  have := (keyB_iff.1 ((xsB_iff.1 h5).1.ky k q (List.getElem?_eq_some_iff.1 hk).1 hk)).2.1
  omega
theorem nb_may {x : Ac} (h : mayB x = true) : Nb x := by
  have hm := mayB_iff.1 h
  have h1 := hm.ow
  have h2 := hm.gr
  have h3 := hm.ot
  have h4 := hm.ms
  refine ⟨by omega, by omega, by omega, by omega, fun k p hk => ?_⟩
  have := (rise_nm hm.gs).1 p (List.mem_of_getElem? hk)
  omega
end Go.Proofs.Ytgdiiicaljidpaa
