/- Who owns attributes, and how they are turned: as lists. No program stands here. -/
import Derived.Test.YtgdiiicaljidpaaNuT
import Derived.Test.YtgdiiicaljidpaaAcT
import Derived.Test.YtgdiiicaljidpaaAtT
import Derived.Test.YtgdiiicaljidpaaXsT
import Derived.Test.YtgdiiicaljidpaaLwT
set_option linter.unusedSimpArgs false
set_option linter.unusedVariables false
set_option linter.unusedSimpArgs false
set_option linter.unusedVariables false
namespace Go.Proofs.Ytgdiiicaljidpaa
/-- m without the bits of k. -/
def offN (m k : Nat) : Nat := m - (m &&& k)
def ownsB (c : Cr) (x : At) : Bool := decide (c.ui = 0) || decide (c.ui = x.ui)
def goesN (x : At) : Nat := if cls x.ac % 2 = 1 then offN (offN x.bi 4) 2 else offN x.bi 4
def withBi (x : At) (b : Nat) : At := ⟨b, x.ui, x.gi, x.ac, x.hd, x.df, x.xs⟩
def withAc (x : At) (l : Ac) : At := ⟨x.bi, x.ui, x.gi, l, x.hd, x.df, x.xs⟩
def withDf (x : At) (h : Bool) (l : Ac) : At := ⟨x.bi, x.ui, x.gi, x.ac, h, l, x.xs⟩
def withId (x : At) (u g : Nat) : At := ⟨x.bi, u, g, x.ac, x.hd, x.df, x.xs⟩
def goesA (x : At) : At := withBi x (goesN x)
def lostB (c : Cr) (x : At) (k : Nat) : Bool := decide (k = 1) && (!decide (c.ui = 0) && !inB c x.gi)
def lostA (c : Cr) (x : At) (k : Nat) : At := if lostB c x k then withBi x (offN x.bi 2) else x
def atZ : At := ⟨0, 0, 0, acZ, false, acZ, []⟩
/-- Another mode. -/
def chmN (c : Cr) (x : At) : Int := if validB c x then (if ownsB c x then 0 else 601) else 622
def chmX (c : Cr) (x : At) (k m : Nat) : At := lostA c (withAc (withBi x (m / 512 % 8)) (chA x.ac m)) k
def chmA (c : Cr) (x : At) (k m : Nat) : At := if validB c x then (if ownsB c x then chmX c x k m else atZ) else atZ
/-- Another owner. -/
def idB (i : Int) : Bool := decide (-1 ≤ i) && decide (i ≤ 65535)
def becN (i : Int) (o : Nat) : Nat := if i = -1 then o else i.toNat
def leaveB (c : Cr) (x : At) (u g : Int) : Bool := decide (c.ui = 0) || (decide (becN u x.ui = x.ui) && (decide (becN g x.gi = x.gi) || inB c (becN g x.gi)))
def choX (x : At) (k : Nat) (u g : Int) : At := if k = 1 then goesA (withId x (becN u x.ui) (becN g x.gi)) else withId x (becN u x.ui) (becN g x.gi)
def choN (c : Cr) (x : At) (u g : Int) : Int := if validB c x then (if idB u && idB g then (if ownsB c x then (if leaveB c x u g then 0 else 601) else 601) else 622) else 622
def choA (c : Cr) (x : At) (k : Nat) (u g : Int) : At := if choN c x u g = 0 then choX x k u g else atZ
/-- Another list. -/
def aclN (c : Cr) (x : At) (k wh : Nat) (l : Ac) : Int :=
  if validB c x then (if decide (1 ≤ wh) && decide (wh ≤ 3) then (if ownsB c x then (if decide (wh = 1) || decide (k = 2) then (if decide (wh = 3) || mayB l then 0 else 622) else 613) else 601) else 622) else 622
def aclX (c : Cr) (x : At) (k wh : Nat) (l : Ac) : At := if wh = 1 then lostA c (withAc x l) k else if wh = 2 then withDf x true l else withDf x false acZ
def aclA (c : Cr) (x : At) (k wh : Nat) (l : Ac) : At := if aclN c x k wh l = 0 then aclX c x k wh l else atZ
def wriA (c : Cr) (x : At) : At := if validB c x then (if c.ui = 0 then x else goesA x) else atZ
def remB (c : Cr) (d x : At) : Bool := validB c d && (validB c x && (ownsB c x || (ownsB c d || decide (d.bi &&& 1 = 0))))
theorem may_ch {x : Ac} (h : May x) (b : Nat) : mayB (chA x b) = true := mayB_iff.2 ⟨by simp only [chA]; omega, by
    have := h.gr
    simp only [chA]
    split <;> omega, by simp only [chA]; omega, by
    have := h.ms
    simp only [chA]
    split <;> omega, h.us, h.gs, fun hm => by
    obtain ⟨h1, h2, h3⟩ := h.small hm
    have hm' : x.hm = false := hm
    refine ⟨?_, h2, h3⟩
    simp only [chA, hm']
    simpa using h1⟩
theorem bits_ch (x : Ac) (b : Nat) : bitsN (chA x b) = b % 512 := by
  have e : cls (chA x b) = b / 8 % 8 := by
    unfold cls chA
    cases x.hm <;> simp
  unfold bitsN
  rw [e]
  show b / 64 % 8 % 8 * 64 + b / 8 % 8 % 8 * 8 + b % 8 % 8 = b % 512
  omega
theorem ch_ch (x : Ac) (b m : Nat) : chA (chA x b) m = chA x m := by
  unfold chA
  cases x.hm <;> simp
theorem ch_mod (x : Ac) (b : Nat) : chA (chA x b) (b % 512) = chA x b := by
  rw [ch_ch]
  have e1 : b % 512 / 64 % 8 = b / 64 % 8 := by omega
  have e2 : b % 512 / 8 % 8 = b / 8 % 8 := by omega
  have e3 : b % 512 % 8 = b % 8 := by omega
  unfold chA
  rw [e1, e2, e3]
theorem nb_ch {x : Ac} (h : Nb x) (b : Nat) : Nb (chA x b) := ⟨by simp only [chA]; omega, by
    have := h.gr
    simp only [chA]
    split <;> omega, by simp only [chA]; omega, by
    have := h.ms
    simp only [chA]
    split <;> omega, h.pm⟩
/- bits -/
theorem off_le (m k : Nat) : offN m k ≤ m := Nat.sub_le _ _
theorem off_off : ∀ m < 8, ∀ k < 8, offN (offN m k) m = 0 := by decide
theorem off_self : ∀ m < 8, offN m m = 0 := by decide
theorem off_two : ∀ m < 8, offN (offN m 2) m = 0 ∧ offN m 2 &&& 5 = m &&& 5 ∧ offN m 2 &&& 1 = m &&& 1 ∧ offN m 2 < 8 := by decide
theorem off_four : ∀ m < 8, offN (offN m 4) m = 0 ∧ offN m 4 &&& 1 = m &&& 1 ∧ offN m 4 < 8 ∧ offN m 4 &&& 4 = 0 := by decide
theorem off_six : ∀ m < 8, offN (offN (offN m 4) 2) m = 0 ∧ offN (offN m 4) 2 &&& 1 = m &&& 1 ∧ offN (offN m 4) 2 < 8 ∧ offN (offN m 4) 2 &&& 4 = 0 ∧ offN (offN m 4) 2 &&& 2 = 0 := by decide
theorem off_again : ∀ m < 8, offN (offN m 4) 4 = offN m 4 ∧ offN (offN (offN (offN m 4) 2) 4) 2 = offN (offN m 4) 2 := by decide
theorem and_odd (n : Nat) : (n &&& 1 = 0) = (n % 2 = 0) := by rw [Nat.and_one_is_mod]
theorem may8 {x : At} (h : amayB x = true) : x.bi < 8 := by have := (amay_parts h).1; omega
theorem amay_of {x : At} (h1 : x.bi ≤ 7) (h2 : mayB x.ac = true) (h3 : defB x.hd x.df = true) (h4 : xsB x.xs = true) : amayB x = true := by
  unfold amayB
  rw [decide_eq_true h1, h2, h3, h4]
  rfl
theorem amay_all {x : At} (h : amayB x = true) : x.bi ≤ 7 ∧ mayB x.ac = true ∧ defB x.hd x.df = true ∧ xsB x.xs = true := by
  unfold amayB at h
  simpa only [Bool.and_eq_true, decide_eq_true_eq] using h
theorem may_withBi {x : At} (h : amayB x = true) {b : Nat} (hb : b < 8) : amayB (withBi x b) = true := by
  obtain ⟨h1, h2, h3, h4⟩ := amay_all h
  exact amay_of (by show b ≤ 7; omega) h2 h3 h4
theorem may_withAc {x : At} (h : amayB x = true) {l : Ac} (hl : mayB l = true) : amayB (withAc x l) = true := by
  obtain ⟨h1, h2, h3, h4⟩ := amay_all h
  exact amay_of h1 hl h3 h4
theorem may_withId {x : At} (h : amayB x = true) (u g : Nat) : amayB (withId x u g) = true := by
  obtain ⟨h1, h2, h3, h4⟩ := amay_all h
  exact amay_of h1 h2 h3 h4
theorem may_withDf {x : At} (h : amayB x = true) {l : Ac} (hl : mayB l = true) : amayB (withDf x true l) = true := by
  obtain ⟨h1, h2, h3, h4⟩ := amay_all h
  exact amay_of h1 h2 (by unfold defB; show (mayB l && (true || _)) = true; rw [hl]; rfl) h4
theorem may_noDf {x : At} (h : amayB x = true) : amayB (withDf x false acZ) = true := by
  obtain ⟨h1, h2, h3, h4⟩ := amay_all h
  exact amay_of h1 h2 (by unfold defB; show (mayB acZ && (false || sameB acZ acZ)) = true; rw [mayB_acZ, sameB_self]; rfl) h4
theorem goesN_lt {x : At} (h : x.bi < 8) : goesN x < 8 := by
  have h1 := off_le (offN x.bi 4) 2
  have h2 := off_le x.bi 4
  unfold goesN
  split <;> omega
theorem may_goes {x : At} (h : amayB x = true) : amayB (goesA x) = true := may_withBi h (goesN_lt (may8 h))
theorem may_lost {c : Cr} {x : At} {k : Nat} (h : amayB x = true) : amayB (lostA c x k) = true := by
  unfold lostA
  split
  · exact may_withBi h (Nat.lt_of_le_of_lt (off_le _ _) (may8 h))
  · exact h
theorem valid_parts {c : Cr} {x : At} (h : validB c x = true) : c.gs.length ≤ 4 ∧ amayB x = true := by
  unfold validB at h
  rwa [Bool.and_eq_true, decide_eq_true_eq] at h
theorem valid_of {c : Cr} {x : At} (h1 : c.gs.length ≤ 4) (h2 : amayB x = true) : validB c x = true := by
  unfold validB
  rw [h2, decide_eq_true h1]; rfl
end Go.Proofs.Ytgdiiicaljidpaa
