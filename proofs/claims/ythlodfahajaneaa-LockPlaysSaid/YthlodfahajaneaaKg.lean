/- What Want tells and leaves, whatever is asked. -/
import Derived.Test.YthlodfahajaneaaKf
set_option linter.unusedSimpArgs false
set_option linter.unusedVariables false
namespace Go.Proofs.Ythlodfahajaneaa
open Go Go.RowKit LockMath Go.Shelf
section
variable {w0 w : World} {T G : Nat} {As : List (Option Addr × Nat)} {n : Int} {Q : List (List Int)}
theorem want_no {p id : Int} (ho : okB Q n p id = false) : wantB Q n p id = false ∧ wantE Q n p id = 2 ∧ wantQ Q n p id = Q := by
  unfold wantB wantE wantQ
  rw [if_neg (by rw [ho]; decide), if_neg (by rw [ho]; decide), if_neg (by rw [ho]; decide)]
  exact ⟨rfl, rfl, rfl⟩
theorem want_has {p : Int} {i : Nat} (ho : okB Q n p (i : Int) = true) (hh : Hold Q p i) : wantB Q n p (i : Int) = true ∧ wantE Q n p (i : Int) = 0 ∧ wantQ Q n p (i : Int) = Q := by
  have hp := ok_iff.1 ho
  obtain ⟨a, b, c⟩ := want_held ⟨hp.1, hp.2.1⟩ hh
  exact ⟨b, a, c⟩
theorem want_bar {p : Int} {i : Nat} (ho : okB Q n p (i : Int) = true) (hh : ¬ Hold Q p i) (hb : (elseB Q p i || grB Q p i) = true) : wantB Q n p (i : Int) = false ∧ wantE Q n p (i : Int) = 6 ∧ wantQ Q n p (i : Int) = Q := by
  unfold wantB wantE wantQ
  rw [if_pos ho, if_pos ho, if_pos ho, Int.toNat_natCast, if_neg hh, if_neg hh, if_neg hh, if_pos hb, if_pos hb, if_pos hb]
  exact ⟨rfl, rfl, rfl⟩
theorem want_wait {p : Int} {i : Nat} (ho : okB Q n p (i : Int) = true) (hh : ¬ Hold Q p i) (hb : (elseB Q p i || grB Q p i) = false) (hw : (waitsF Q p).isSome = true) : wantB Q n p (i : Int) = false ∧ wantE Q n p (i : Int) = 0 ∧ wantQ Q n p (i : Int) = Q := by
  have hb2 : ¬ (elseB Q p i || grB Q p i) = true := by rw [hb]; decide
  unfold wantB wantE wantQ
  rw [if_pos ho, if_pos ho, if_pos ho, Int.toNat_natCast, if_neg hh, if_neg hh, if_neg hh, if_neg hb2, if_neg hb2, if_neg hb2, if_pos hw, if_pos hw]
  exact ⟨rfl, rfl, rfl⟩
theorem want_put {p : Int} {i : Nat} (ho : okB Q n p (i : Int) = true) (hh : ¬ Hold Q p i) (hb : (elseB Q p i || grB Q p i) = false) (hw : (waitsF Q p).isSome = false) : wantB Q n p (i : Int) = decide (qu Q i = []) ∧ wantE Q n p (i : Int) = 0 ∧ wantQ Q n p (i : Int) = Q.set i (qu Q i ++ [p]) := by
  have hb2 : ¬ (elseB Q p i || grB Q p i) = true := by rw [hb]; decide
  have hw2 : ¬ (waitsF Q p).isSome = true := by rw [hw]; decide
  unfold wantB wantE wantQ
  rw [if_pos ho, if_pos ho, if_pos ho, Int.toNat_natCast, if_neg hh, if_neg hh, if_neg hh, if_neg hb2, if_neg hb2, if_neg hb2, if_neg hw2, if_neg hw2]
  exact ⟨rfl, rfl, rfl⟩
theorem wait_some {p : Int} (hv : Inv Q) {i : Nat} (hh : ¬ Hold Q p i) (hb : (elseB Q p i || grB Q p i) = false) : (waitsF Q p).isSome = decide (p ∈ qu Q i) := by
  rw [Bool.eq_iff_iff, decide_eq_true_eq]
  constructor
  · intro h
    obtain ⟨j, hj⟩ := Option.isSome_iff_exists.1 h
    rw [Bool.or_eq_false_iff] at hb
    have h2 := hb.1
    unfold elseB at h2
    rw [hj] at h2
    have h3 : j = i := Classical.not_not.1 (of_decide_eq_false h2)
    subst h3
    exact mem_or.2 (.inr (waits_some hj))
  · intro h
    rcases mem_or.1 h with h1 | h1
    · exact absurd h1 hh
    · cases hc : waitsF Q p with
      | none => exact absurd h1 (waits_none.1 hc i)
      | some j => rfl
theorem want_calls (h : Tb w0 w T G As n Q) (hw0 : w0.heap.size ≤ w.heap.size) (p id : Int) :
    Calls Try.prog 13 #[.pointer (some ⟨T, 0, none⟩), .int .i64 p, .int .i64 id] w (WantP w0 w T G As n (wantB Q n p id) (wantE Q n p id) (wantQ Q n p id)) := by
  cases ho : okB Q n p id with
  | false =>
    obtain ⟨e1, e2, e3⟩ := want_no ho
    rw [e1, e2, e3]
    refine (want_bad h p id ho).mono ?_
    rintro e w' ⟨rfl, rfl⟩
    exact ⟨rfl, As, h, Tn.refl⟩
  | true =>
    have hp := ok_iff.1 ho
    obtain ⟨i, rfl⟩ := Int.eq_ofNat_of_zero_le hp.2.2.1
    have hi : i < Q.length := by omega
    have hp2 : 0 ≤ p ∧ p < n := ⟨hp.1, hp.2.1⟩
    by_cases hh : Hold Q p i
    · obtain ⟨e1, e2, e3⟩ := want_has ho hh
      rw [e1, e2, e3]
      refine (want_held2 h p i hp2 hi hh).mono ?_
      rintro e w' ⟨rfl, rfl⟩
      exact ⟨rfl, As, h, Tn.refl⟩
    · cases hb : (elseB Q p i || grB Q p i) with
      | true =>
        obtain ⟨e1, e2, e3⟩ := want_bar ho hh hb
        rw [e1, e2, e3]
        refine (want_barred h p i hp2 hi hh hb).mono ?_
        rintro e w' ⟨rfl, hB⟩
        exact ⟨rfl, As, h.below hB, Tn.of_below hB⟩
      | false =>
        have hs := wait_some h.nm.inv hh hb
        by_cases hw : p ∈ qu Q i
        · rw [decide_eq_true hw] at hs
          obtain ⟨e1, e2, e3⟩ := want_wait ho hh hb hs
          rw [e1, e2, e3]
          refine (want_waits h p i hp2 hi hh hb hw).mono ?_
          rintro e w' ⟨rfl, hB⟩
          exact ⟨rfl, As, h.below hB, Tn.of_below hB⟩
        · rw [decide_eq_false hw] at hs
          obtain ⟨e1, e2, e3⟩ := want_put ho hh hb hs
          rw [e1, e2, e3]
          exact want_new h hw0 p i hp2 hi hh hb hw
theorem want_nil (w : World) (p id : Int) : Calls Try.prog 13 #[.pointer none, .int .i64 p, .int .i64 id] w fun e w' => e = .returned (.tuple #[.bool false, .int .i64 1]) ∧ w = w' := by
  go_enter Try.func13, Try.ntmps13
  go_wp2_with (go_at_call 22; refine (lacks_nil _ _).mono ?_; rintro e w' ⟨rfl, rfl⟩)
  go_ret2
  exact ⟨rfl, rfl⟩
end
end Go.Proofs.Ythlodfahajaneaa
