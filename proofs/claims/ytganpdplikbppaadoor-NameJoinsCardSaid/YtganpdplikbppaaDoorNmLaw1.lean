/- NameChecks and NameSplits. -/
import Derived.Test.YtganpdplikbppaaDoorNmAlive
import Derived.Test.YtganpdplikbppaaDoorNm10
import Derived.Test.YtganpdplikbppaaDoorNm11
set_option linter.unusedSimpArgs false
set_option linter.unusedVariables false
namespace Go.Proofs.YtganpdplikbppaaDoor
open Go.RowKit Go.Lib SumMath

/-- What the one Split hands back of a text, another one does, too. -/
def Again (s : ByteArray) (xs : List ByteArray) (r d : Bool) (E : Int) : Prop := ∀ (w w' : World) (e : Ending), Splits s w e w' →
  ∃ A c, e = .returned (.tuple #[.agg #[.bool r, .bool d, .slice A xs.length c], .int .i64 E]) ∧ Below w.heap.size w w' ∧ Cel w' A (sv xs)
theorem map_tl_inj : ∀ {xs ys : List ByteArray}, xs.map tl = ys.map tl → xs = ys
  | [], [], _ => rfl
  | [], _ :: _, h => by simp at h
  | _ :: _, [], h => by simp at h
  | a :: xs, b :: ys, h => by
    simp only [List.map_cons, List.cons.injEq] at h
    rw [tl_inj h.1, map_tl_inj h.2]
theorem splits_same {s : ByteArray} {w w' : World} {e : Ending} (h : Splits s w e w') :
    ∃ xs r d E A c, e = .returned (.tuple #[.agg #[.bool r, .bool d, .slice A xs.length c], .int .i64 E]) ∧ Again s xs r d E ∧ Below w.heap.size w w' ∧ Cel w' A (sv xs) ∧ xs.length ≤ 1024 := by
  obtain ⟨xs, A, c, hb, hc, hle, h1024, hF, hok, hno⟩ := h
  by_cases hz : splitE (tl s) = 0
  · obtain ⟨hx, he⟩ := hok hz
    refine ⟨xs, rootB (tl s), dirB (tl s), 0, A, c, he, ?_, hb, hc, h1024⟩
    intro v v' e' h'
    obtain ⟨ys, A', c', hb', hc', _, _, _, hok', _⟩ := h'
    obtain ⟨hy, he'⟩ := hok' hz
    obtain rfl : ys = xs := map_tl_inj (hy.trans hx.symm)
    exact ⟨A', c', he', hb', hc'⟩
  · obtain ⟨rfl, he⟩ := hno hz
    refine ⟨[], false, false, splitE (tl s), none, 0, he, ?_, hb, Cel.nil _ _, by decide⟩
    intro v v' e' h'
    obtain ⟨ys, A', c', hb', hc', _, _, _, _, hno'⟩ := h'
    obtain ⟨rfl, he'⟩ := hno' hz
    exact ⟨none, 0, he', hb', Cel.nil _ _⟩
set_option maxRecDepth 100000 in
set_option maxHeartbeats 4000000 in
theorem checks_law (s : ByteArray) (w : World) (hT : TabAt w) :
    Calls Tryd.prog 3 #[.string s] w fun e w' => e = .returned (.bool true) ∧ Below w.heap.size w w' := by
  have HT := Lib.hid hT
  clear hT
  by_cases hs : s.size ≤ 1024
  · have hs' : (s.size : Int) ≤ 1024 := by omega
    obtain ⟨E, hE⟩ : ∃ E, checkE s.data.toList = E := ⟨_, rfl⟩
    obtain ⟨D, hD⟩ : ∃ D, dotsB s.data.toList = D := ⟨_, rfl⟩
    obtain ⟨K, hK⟩ : ∃ K, bucketV s.data.toList = K := ⟨_, rfl⟩
    go_enter Tryd.func3, Tryd.ntmps3
    go_wp2_with (fail)
    refine (check_calls s _ (by omega)).mono ?_
    rintro e w1 ⟨rfl, hb1⟩
    rw [hE]
    have HB1 := Lib.hid hb1
    clear hb1
    go_wp2_with (fail)
    refine (rcheck_calls s _ (by omega)).mono ?_
    rintro e w2 ⟨rfl, hw2⟩
    rw [hE, hw2]
    clear hw2
    go_wp2_with (fail)
    refine (dots_calls s _).mono ?_
    rintro e w2 ⟨rfl, hw2⟩
    rw [hD, hw2]
    clear hw2
    go_wp2_with (fail)
    refine (rdots_calls s _).mono ?_
    rintro e w2 ⟨rfl, hw2⟩
    rw [hD, hw2]
    clear hw2
    go_wp2_with (fail)
    refine (bucket_calls s _ (by omega) (HT.out.below HB1.out)).mono ?_
    rintro e w2 ⟨rfl, hw2⟩
    rw [hK, hw2]
    clear hw2
    go_wp2_with (fail)
    refine (rbucket_calls s _ (by omega)).mono ?_
    rintro e w2 ⟨rfl, hw2⟩
    rw [hK, hw2]
    clear hw2
    go_wp2_with (fail)
    refine (alive_calls _ (HT.out.below HB1.out)).mono ?_
    rintro e w2 ⟨rfl, hb2⟩
    have HB2 := Lib.hid (HB1.out.trans (hb2.mono HB1.out.size))
    clear hb2
    go_wp2_with (fail)
    go_ret
    exact ⟨rfl, HB2.out⟩
  · have hs' : (1024 : Int) < (s.size : Int) := by omega
    go_enter Tryd.func3, Tryd.ntmps3
    go_wp2_with (fail)
    refine (alive_calls _ HT.out).mono ?_
    rintro e w1 ⟨rfl, hb1⟩
    have HB1 := Lib.hid hb1
    clear hb1
    go_wp2_with (fail)
    go_ret
    exact ⟨rfl, HB1.out⟩
set_option maxRecDepth 100000 in
set_option maxHeartbeats 4000000 in
theorem splits_law (s : ByteArray) (w : World) (hT : TabAt w) :
    Calls Tryd.prog 4 #[.string s] w fun e w' => e = .returned (.bool true) ∧ Below w.heap.size w w' := by
  have HT := Lib.hid hT
  clear hT
  by_cases hs : s.size ≤ 1024
  · have hs' : (s.size : Int) ≤ 1024 := by omega
    go_enter Tryd.func4, Tryd.ntmps4
    go_wp2_with (fail)
    refine (split_calls s _ (by omega)).mono ?_
    intro e w1 h1
    obtain ⟨xs, r, d, E, A, c, rfl, hE, hb1, hc1, hl1⟩ := splits_same h1
    have HE := Lib.hid hE
    have HB1 := Lib.hid hb1
    have HC1 := Lib.hid hc1
    clear h1 hE hb1 hc1
    go_wp2_with (fail)
    refine (rsplit_calls s _ (by omega)).mono ?_
    intro e w2 h2
    obtain ⟨A2, c2, rfl, hb2, hc2⟩ := HE.out _ _ _ h2
    have P2 := alloc_later hb2
    obtain ⟨z0, z1, z2⟩ := three_cells P2
    have hl2 := lt_of_cells P2
    have HB2 := Lib.hid (HB1.out.trans ((below_alloc hb2).mono (by have := HB1.out.size; omega)))
    have C1 := HC1.out.below (below_alloc hb2)
    have HCC := Lib.hid (And.intro C1 hc2)
    clear h2 hb2 C1 hc2 P2
    go_wp2_with (fail)
    refine (same_calls r d A A2 xs c c2 _ (HCC.out.1.below ((Below.refl _ _).alloc (Nat.le_refl _) _)) (HCC.out.2.below ((Below.refl _ _).alloc (Nat.le_refl _) _)) (by omega)).mono ?_
    rintro e w3 ⟨rfl, hb3⟩
    have HB3 := Lib.hid (HB2.out.trans ((below_alloc hb3).mono HB2.out.size))
    clear hb3 z0 z1 z2
    go_wp2_with (fail)
    refine (alive_calls _ (HT.out.below HB3.out)).mono ?_
    rintro e w4 ⟨rfl, hb4⟩
    have HB4 := Lib.hid (HB3.out.trans (hb4.mono HB3.out.size))
    clear hb4
    go_wp2_with (fail)
    go_ret
    exact ⟨rfl, HB4.out⟩
  · have hs' : (1024 : Int) < (s.size : Int) := by omega
    go_enter Tryd.func4, Tryd.ntmps4
    go_wp2_with (fail)
    refine (alive_calls _ HT.out).mono ?_
    rintro e w1 ⟨rfl, hb1⟩
    have HB1 := Lib.hid hb1
    clear hb1
    go_wp2_with (fail)
    go_ret
    exact ⟨rfl, HB1.out⟩
end Go.Proofs.YtganpdplikbppaaDoor
