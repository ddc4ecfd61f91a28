/- The document's own: which names, and which slots, may be. -/
import Derived.Test.YtipghcpodhokbaaDoorSlo9
import Derived.Test.YtipghcpodhokbaaDoorGeoMay
set_option linter.unusedSimpArgs false
set_option linter.unusedVariables false
namespace Go.Proofs.YtipghcpodhokbaaDoor
open Go.RowKit WordMath SumMath
/-- Are the first k bytes neither a 0 nor a slash? -/
def plainTo (s : ByteArray) (k : Nat) : Bool := (s.data.toList.take k).all fun b => b != 0 && b != 47
theorem plainTo_zero (s : ByteArray) : plainTo s 0 = true := rfl
theorem plainTo_all (s : ByteArray) : plainTo s s.size = plainB s := by
  unfold plainTo plainB
  rw [List.take_of_length_le (by simp)]
theorem plainTo_succ (s : ByteArray) (k : Nat) (h : k < s.size) : plainTo s (k + 1) = (plainTo s k && (s[k] != 0 && s[k] != 47)) := by
  unfold plainTo
  have hl : k < s.data.toList.length := by simpa using h
  rw [List.take_succ_eq_append_getElem hl, List.all_append]
  have : s.data.toList[k] = s[k] := rfl
  rw [this]
  simp
theorem plain_no (s : ByteArray) (k : Nat) (h : k < s.size) (hb : s[k] = 0 ∨ s[k] = 47) : plainB s = false := by
  rw [Bool.eq_false_iff]
  intro hp
  unfold plainB at hp
  rw [List.all_eq_true] at hp
  have hl : k < s.data.toList.length := by simpa using h
  have := hp _ (List.getElem_mem hl)
  have e : s.data.toList[k] = s[k] := rfl
  rw [e] at this
  rcases hb with hb | hb <;> rw [hb] at this <;> simp at this
def namedB (s : ByteArray) : Bool := decide (1 ≤ s.size ∧ s.size ≤ 16) && plainB s
set_option maxRecDepth 100000 in
set_option maxHeartbeats 1000000 in
theorem named_calls (s : ByteArray) (w : World) (hs : s.size ≤ 9223372036854775807) : Calls Tryd.prog 31 #[.string s] w fun e w' => e = .returned (.bool (namedB s)) ∧ w = w' := by
  obtain ⟨r, hr⟩ : ∃ r, namedB s = r := ⟨_, rfl⟩
  rw [hr]
  have HR := Lib.hid hr
  clear hr
  go_enter Tryd.func31, Tryd.ntmps31
  go_wp2_with (fail)
  go_loop [3] (fun i => ∃ k : Nat, i = .int .i64 k ∧ k ≤ s.size ∧ Hid (plainTo s k = true)) (fun i => s.size - (intOf i).toNat)
  case atStart => exact ⟨0, rfl, by omega, Lib.hid rfl⟩
  case round =>
    obtain ⟨k, rfl, hk, hp⟩ := hrel
    by_cases h1 : k < s.size
    · by_cases h0 : s[k] = 0
      · have hn := plain_no s k h1 (.inl h0)
        have e0 : ((s[k].toNat : Int) == 0) = true := by rw [h0]; rfl
        have hr2 : r = false := by rw [← HR.out]; unfold namedB; rw [hn, Bool.and_false]
        subst hr2
        clear h0 hn HR hp
        go_wp2_with (fail)
        go_ret
        exact ⟨rfl, rfl⟩
      · have hz : ¬ (s[k].toNat : Int) = 0 := fun e => h0 (UInt8.toNat.inj (by simpa using e))
        have e0 : ((s[k].toNat : Int) == 0) = false := by rw [beq_eq_false_iff_ne]; exact hz
        clear hz
        by_cases h47 : s[k] = 47
        · have hn := plain_no s k h1 (.inr h47)
          have e1 : ((s[k].toNat : Int) == 47) = true := by rw [h47]; rfl
          have hr2 : r = false := by rw [← HR.out]; unfold namedB; rw [hn, Bool.and_false]
          subst hr2
          clear h0 h47 hn HR hp
          go_wp2_with (fail)
          go_ret
          exact ⟨rfl, rfl⟩
        · have hz : ¬ (s[k].toNat : Int) = 47 := fun e => h47 (UInt8.toNat.inj (by
            have : s[k].toNat = 47 := by omega
            rw [this]; rfl))
          have e1 : ((s[k].toNat : Int) == 47) = false := by rw [beq_eq_false_iff_ne]; exact hz
          have hs2 := Lib.hid (show plainTo s (k + 1) = true by
            rw [plainTo_succ s k h1, hp.out, Bool.true_and, Bool.and_eq_true, bne_iff_ne, bne_iff_ne]
            exact ⟨h0, h47⟩)
          clear h0 h47 hz hp
          go_wp2_with (fail)
          go_round
          case rel => exact ⟨k + 1, by go_num, by omega, hs2⟩
          case measure => simp [intOf]; omega
    · obtain rfl : k = s.size := by omega
      have hr2 : r = decide (1 ≤ s.size ∧ s.size ≤ 16) := by
        rw [← HR.out]; unfold namedB; rw [← plainTo_all, hp.out, Bool.and_true]
      subst hr2
      clear HR hp
      by_cases a1 : 1 ≤ s.size
      · by_cases a2 : s.size ≤ 16
        · go_wp2_with (fail)
          go_ret
          exact ⟨by simp [a1, a2]; omega, rfl⟩
        · have e2 : decide ((s.size : Int) ≤ 16) = false := by rw [decide_eq_false_iff_not]; omega
          go_wp2_with (fail)
          go_ret
          exact ⟨by simp [a2], rfl⟩
      · have e2 : decide (1 ≤ (s.size : Int)) = false := by rw [decide_eq_false_iff_not]; omega
        go_wp2_with (fail)
        go_ret
        exact ⟨by simp [a1], rfl⟩
theorem rfull_parts (x : Slt) (I : Int) : fullB x I = (decide (1 ≤ x.I) && (decide (x.I ≤ I) && (decide (1 ≤ x.K) && (decide (x.K ≤ 3) && namedB x.S)))) := by
  unfold fullB namedB
  rw [Bool.decide_and, Bool.decide_and]
  simp only [Bool.and_assoc]
set_option maxRecDepth 100000 in
set_option maxHeartbeats 2000000 in
theorem rmay_good (x : Slt) (P I B : Int) (w : World) (hs : x.S.size ≤ 9223372036854775807) (hg : GOK P I B) : Calls Tryd.prog 13 #[x.v, gv P I B] w fun e w' => e = .returned (.bool (okS x I)) ∧ On w w' := by
  have HG := Lib.hid hg
  have T0 := Lib.hid (Two.new w x P I B)
  have HN := Lib.hid (fun W => named_calls x.S W hs)
  clear hg hs
  unfold okS
  rw [rfull_parts]
  cases hz : isZ x
  case true =>
    have hq := fun W => eqZ hz W
    clear hz
    go_enter Tryd.func13, Tryd.ntmps13
    go_wp2_with (fail)
    refine (may_yes P I B _ HG.out).mono ?_
    rintro e w1 ⟨rfl, hb⟩
    have t1 := T0.out.on' hb
    obtain ⟨x0, x1, x2⟩ := t1.slo.cells
    obtain ⟨g0, g1, g2⟩ := t1.geo.cells
    have l1 := t1.slo.lt
    have l2 := t1.geo.lt
    have b2 := t1.on
    clear T0 hb t1 HN
    go_wp2_with (fail)
    go_ret
    exact ⟨by simp, b2⟩
  case false =>
    have hq := fun W => eqZ hz W
    clear hz
    rcases ways5 (decide (1 ≤ x.I)) (decide (x.I ≤ I)) (decide (1 ≤ x.K)) (decide (x.K ≤ 3)) (namedB x.S) with c1 | ⟨c1, c2⟩ | ⟨c1, c2, c3⟩ | ⟨c1, c2, c3, c4⟩ | ⟨c1, c2, c3, c4, c5⟩ | ⟨c1, c2, c3, c4, c5⟩
    all_goals
      go_enter Tryd.func13, Tryd.ntmps13
      go_wp2_with (fail)
      refine (may_yes P I B _ HG.out).mono ?_
      rintro e w1 ⟨rfl, hb⟩
      have t1 := T0.out.on' hb
      obtain ⟨x0, x1, x2⟩ := t1.slo.cells
      obtain ⟨g0, g1, g2⟩ := t1.geo.cells
      have l1 := t1.slo.lt
      have l2 := t1.geo.lt
      have b2 := t1.on
      clear T0 hb t1
      go_wp2_with (go_at_call 31; refine (HN.out _).mono ?_; rintro e w' ⟨rfl, rfl⟩)
      go_ret
      exact ⟨by simp [*], b2⟩
theorem rmay_calls (x : Slt) (P I B : Int) (w : World) (hs : x.S.size ≤ 9223372036854775807) : Calls Tryd.prog 13 #[x.v, gv P I B] w fun e w' => e = .returned (.bool (mayB x P I B)) ∧ On w w' := by
  by_cases hg : GOK P I B
  · have : mayB x P I B = okS x I := by unfold mayB; rw [decide_eq_true hg, Bool.true_and]
    rw [this]
    exact rmay_good x P I B w hs hg
  · have : mayB x P I B = false := by unfold mayB; rw [decide_eq_false hg, Bool.false_and]
    rw [this]
    have HG := Lib.hid hg
    have T0 := Lib.hid (Two.new w x P I B)
    clear hg this hs
    go_enter Tryd.func13, Tryd.ntmps13
    go_wp2_with (fail)
    refine (may_no P I B _ HG.out).mono ?_
    rintro e w1 ⟨rfl, hb⟩
    have b2 := T0.out.on.trans hb
    clear T0 hb
    go_wp2_with (fail)
    go_ret
    exact ⟨by simp, b2⟩
end Go.Proofs.YtipghcpodhokbaaDoor
