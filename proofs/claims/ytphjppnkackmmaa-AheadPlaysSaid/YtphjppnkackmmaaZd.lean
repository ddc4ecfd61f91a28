/- A map that reads as such a table. No program stands here. -/
import Derived.Test.YtphjppnkackmmaaZm
import Derived.Maps.RangeWalk
import Derived.Maps.OwnSet
import Derived.Maps.OwnOps
set_option linter.unusedSimpArgs false
set_option linter.unusedVariables false
namespace Go.Proofs.Ytphjppnkackmmaa
open Go Go.Maps SumMath
section
variable {H : Type}
abbrev kI (p : Int) : Lit := .int .i64 p
/-- It reads as the table T. -/
structure MapIs (D : DataW H) (T : List Re) : Prop where
  tidy : Tidy D
  rise : Rise T
  has : ∀ p, Maps.has D (kI p) = hasT T p
  at' : ∀ p x z, lkT T p = some x → D.atKey (kI p) z = .lit (.int .u64 (x : Int))
  size : Maps.size D = T.length
  keys : ∀ k, Maps.has D k = true → ∃ p, k = kI p
theorem kI_ne {p q : Int} (h : p ≠ q) : kI p ≠ kI q := by
  intro e
  injection e with _ e
  exact h e
theorem MapIs.made : MapIs (.map [] : DataW H) [] :=
  ⟨tidy_empty, Rise.nil, fun p => rfl, fun p x z h => (by cases h), rfl, fun k h => (by cases h)⟩
theorem MapIs.put {D : DataW H} {T : List Re} (h : MapIs D T) (e : Re) (hk : WideAt.IsKeyLit (kI e.pos)) : MapIs (D.put (kI e.pos) (.lit (.int .u64 (e.word : Int)))) (putT T e) := by
  refine ⟨h.tidy.put hk _, h.rise.put e, fun p => ?_, fun p x z hx => ?_, ?_, fun k hk' => ?_⟩
  · by_cases c : e.pos = p
    · subst c
      rw [has_put_same h.tidy.isMap hk, has_put, decide_eq_true rfl]; rfl
    · rw [has_put_other (kI_ne (Ne.symm c)), has_put, decide_eq_false c, Bool.false_or]
      exact h.has p
  · rw [lk_put] at hx
    by_cases c : e.pos = p
    · subst c
      rw [if_pos rfl] at hx
      injection hx with hx
      rw [atKey_put_same h.tidy.isMap hk, hx]
    · rw [if_neg c] at hx
      rw [atKey_put_other (kI_ne (Ne.symm c))]
      exact h.at' p x z hx
  · rw [size_put h.tidy, len_put h.rise, h.has, h.size]
  · by_cases c : k = kI e.pos
    · exact ⟨_, c⟩
    · rw [has_put_other c] at hk'
      exact h.keys k hk'
theorem MapIs.del {D : DataW H} {T : List Re} (h : MapIs D T) (p : Int) : MapIs (D.del (kI p)) (delT T p) := by
  refine ⟨h.tidy.del _, h.rise.del p, fun q => ?_, fun q x z hx => ?_, ?_, fun k hk => ?_⟩
  · by_cases c : p = q
    · subst c
      rw [has_del_same, SumMath.has_del, decide_eq_false (fun h => h rfl)]; rfl
    · rw [has_del_other (kI_ne (Ne.symm c)), SumMath.has_del, decide_eq_true c, Bool.true_and]
      exact h.has q
  · rw [lk_del] at hx
    by_cases c : p = q
    · rw [if_pos c] at hx; cases hx
    · rw [if_neg c] at hx
      rw [atKey_del_other (kI_ne (Ne.symm c))]
      exact h.at' q x z hx
  · have hs := size_del (k := kI p) h.tidy
    rw [h.has, h.size] at hs
    cases hp : hasT T p with
    | false => rw [hp] at hs; rw [del_none hp]; simpa using hs
    | true =>
      rw [hp] at hs
      have := len_del h.rise hp
      have hs : Maps.size (D.del (kI p)) + 1 = T.length := by simpa using hs
      omega
  · by_cases c : k = kI p
    · exact ⟨_, c⟩
    · rw [has_del_other c] at hk
      exact h.keys k hk
/-- What has been collected, while the map is ranged over: what is no longer to come. -/
structure Coll (T : List Re) (left : Lit → Bool) (C : List Re) : Prop where
  mem : ∀ e, e ∈ C ↔ e ∈ T ∧ left (kI e.pos) = false
  once : C.Pairwise fun x y => x.pos ≠ y.pos
theorem Coll.start {D : DataW H} {T : List Re} (h : MapIs D T) : Coll T (Maps.has D) [] := by
  refine ⟨fun e => ⟨fun he => (by cases he), fun he => ?_⟩, List.Pairwise.nil⟩
  have := he.2
  rw [h.has, has_mem he.1] at this
  cases this
theorem Coll.step {D : DataW H} {T C : List Re} {left : Lit → Bool} (hm : MapIs D T) (h : Coll T left C) {p : Int} {x : Nat} (hl : left (kI p) = true) (hx : ⟨p, x⟩ ∈ T) :
    Coll T (fun z => left z && !z.sameKey (kI p)) (C ++ [⟨p, x⟩]) := by
  have hsame : (kI p).sameKey (kI p) = true := by simp [Lit.sameKey]
  refine ⟨fun e => ?_, ?_⟩
  · rw [List.mem_append, List.mem_singleton, h.mem]
    constructor
    · rintro (⟨h1, h2⟩ | rfl)
      · exact ⟨h1, by simp only [h2, Bool.false_and]⟩
      · exact ⟨hx, by simp only [hl, hsame]; rfl⟩
    · rintro ⟨h1, h2⟩
      by_cases c : e.pos = p
      · refine .inr ?_
        have a := mem_lk hm.rise h1
        have b := mem_lk hm.rise hx
        simp only at b
        rw [c, b] at a
        injection a with a
        cases e
        simp only at c a
        rw [c, a]
      · refine .inl ⟨h1, ?_⟩
        have : (kI e.pos).sameKey (kI p) = false := sameKey_ne (kI_ne c)
        simpa [this] using h2
  · rw [List.pairwise_append]
    refine ⟨h.once, List.pairwise_singleton _ _, fun a ha b hb => ?_⟩
    rw [List.mem_singleton] at hb
    subst hb
    have := ((h.mem a).1 ha).2
    intro e
    simp only at e
    rw [e, hl] at this
    cases this
/-- At the end, sorted: the table. -/
theorem Coll.done {T C S : List Re} {left : Lit → Bool} (hT : Rise T) (h : Coll T left C) (hl : ∀ k, left k = false) (hp : S.Perm C) (hs : S.Pairwise fun x y => x.pos ≤ y.pos) : S = T := by
  refine sorted_is hT hs (hp.symm.pairwise h.once fun a => Ne.symm a) fun e => ?_
  rw [hp.mem_iff, h.mem]
  exact ⟨fun a => a.1, fun a => ⟨a, hl _⟩⟩
end
end Go.Proofs.Ytphjppnkackmmaa
