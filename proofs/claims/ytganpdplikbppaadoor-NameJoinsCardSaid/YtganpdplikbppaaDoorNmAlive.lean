/- What the laws' own 'alive' asks. -/
import Derived.Test.YtganpdplikbppaaDoorNm8
import Derived.Test.YtganpdplikbppaaDoorNm3
import Derived.Test.YtganpdplikbppaaDoorNm12
set_option linter.unusedSimpArgs false
set_option linter.unusedVariables false
namespace Go.Proofs.YtganpdplikbppaaDoor
open Go.RowKit Go.Lib SumMath

theorem tl_inj {a b : ByteArray} (h : tl a = tl b) : a = b := by
  rw [← mk_data a, ← mk_data b]
  show (⟨(tl a).toArray⟩ : ByteArray) = ⟨(tl b).toArray⟩
  rw [h]
theorem splitsA {w w' : World} {e : Ending} (h : Splits ⟨#[47, 97, 47, 47, 98, 47]⟩ w e w') :
    ∃ g c, e = .returned (.tuple #[.agg #[.bool true, .bool true, .slice (some ⟨g, 0, none⟩) 2 c], .int .i64 0]) ∧ 2 ≤ c ∧ Cel w' (some ⟨g, 0, none⟩) (sv [⟨#[97]⟩, ⟨#[98]⟩]) ∧ Below w.heap.size w w' ∧ w.heap.size ≤ g ∧ g < w'.heap.size := by
  obtain ⟨xs, A, c, hb, hc, hle, _, hF, hok, _⟩ := h
  obtain ⟨hx, he⟩ := hok (by decide)
  have hx2 : xs.map tl = [⟨#[97]⟩, ⟨#[98]⟩].map tl := hx.trans (by decide)
  have hxs : xs = [⟨#[97]⟩, ⟨#[98]⟩] := by
    match xs, hx2 with
    | [a, b], h =>
      simp only [List.map_cons, List.map_nil, List.cons.injEq, and_true] at h
      rw [tl_inj h.1, tl_inj h.2]
    | [], h => simp at h
    | [a], h => simp at h
    | a :: b :: d :: r, h => simp at h
  subst hxs
  obtain ⟨ad, rfl, hlt, _⟩ := hc (by decide)
  obtain ⟨g, rfl, hg⟩ := hF ad rfl
  exact ⟨g, c, he, hle, hc, hb, hg, hlt⟩
theorem splitsB {w w' : World} {e : Ending} (h : Splits ⟨#[]⟩ w e w') :
    e = .returned (.tuple #[.agg #[.bool false, .bool false, .slice none 0 0], .int .i64 602]) ∧ Below w.heap.size w w' := by
  obtain ⟨xs, A, c, hb, hc, hle, _, hF, _, hno⟩ := h
  exact ⟨(hno (by decide)).2, hb⟩
theorem joinA (g c : Nat) (w : World) (hle : 2 ≤ c) (hc : Cel w (some ⟨g, 0, none⟩) (sv [⟨#[97]⟩, ⟨#[98]⟩])) :
    Calls Tryd.prog 18 #[.agg #[.bool true, .bool true, .slice (some ⟨g, 0, none⟩) 2 c]] w fun e w' => e = .returned (.string ⟨#[47, 97, 47, 98, 47]⟩) ∧ Below w.heap.size w w' :=
  (join_calls true true (some ⟨g, 0, none⟩) [⟨#[97]⟩, ⟨#[98]⟩] c w (fun ad h => by cases h; exact ⟨g, rfl⟩) hc hle (by decide) (by decide)).mono fun e w' ⟨t, he, ht, hb⟩ =>
    ⟨by rw [he, tl_inj (b := ⟨#[47, 97, 47, 98, 47]⟩) (ht.trans (by decide))], hb⟩
theorem checkA (w : World) : Calls Tryd.prog 9 #[.string ⟨#[97, 47, 98]⟩] w fun e w' => e = .returned (.int .i64 622) ∧ Below w.heap.size w w' :=
  (check_calls ⟨#[97, 47, 98]⟩ w (by decide)).mono fun e w' ⟨he, hb⟩ => ⟨by rw [he, show checkE (⟨#[97, 47, 98]⟩ : ByteArray).data.toList = 622 by decide], hb⟩
theorem checkB (w : World) : Calls Tryd.prog 9 #[.string ⟨#[97]⟩] w fun e w' => e = .returned (.int .i64 0) ∧ Below w.heap.size w w' :=
  (check_calls ⟨#[97]⟩ w (by decide)).mono fun e w' ⟨he, hb⟩ => ⟨by rw [he, show checkE (⟨#[97]⟩ : ByteArray).data.toList = 0 by decide], hb⟩
theorem dotsA (w : World) : Calls Tryd.prog 11 #[.string ⟨#[46, 46]⟩] w fun e w' => e = .returned (.bool true) ∧ w' = w :=
  (dots_calls ⟨#[46, 46]⟩ w).mono fun e w' ⟨he, hb⟩ => ⟨by rw [he]; rfl, hb⟩
theorem dotsX (w : World) : Calls Tryd.prog 11 #[.string ⟨#[97]⟩] w fun e w' => e = .returned (.bool false) ∧ w' = w :=
  (dots_calls ⟨#[97]⟩ w).mono fun e w' ⟨he, hb⟩ => ⟨by rw [he]; rfl, hb⟩
theorem bucketA (w : World) (hT : TabAt w) : Calls Tryd.prog 13 #[.string ⟨#[]⟩] w fun e w' => e = .returned (.int .i64 0) ∧ w' = w :=
  (bucket_calls ⟨#[]⟩ w (by decide) hT).mono fun e w' ⟨he, hb⟩ => ⟨by rw [he]; rfl, hb⟩
set_option maxRecDepth 100000 in
set_option maxHeartbeats 4000000 in
theorem alive_calls (w : World) (hT : TabAt w) :
    Calls Tryd.prog 8 #[] w fun e w' => e = .returned (.bool true) ∧ Below w.heap.size w w' := by
  have HT := Lib.hid hT
  clear hT
  go_enter Tryd.func8, Tryd.ntmps8
  go_wp2_with (fail)
  refine (split_calls _ _ (by decide)).mono ?_
  intro e w1 h
  obtain ⟨g, c, rfl, hle, hcel, hb1, hg1, hg2⟩ := splitsA h
  clear h
  have HB1 := Lib.hid hb1
  have HC1 := Lib.hid hcel
  clear hb1 hcel
  go_wp2_with (fail)
  refine (split_calls _ _ (by decide)).mono ?_
  intro e w2 h
  obtain ⟨rfl, hb2⟩ := splitsB h
  clear h
  have P2 := alloc_later hb2
  obtain ⟨z0, z1, z2⟩ := three_cells P2
  have hl2 := lt_of_cells P2
  have HB2 := Lib.hid (HB1.out.trans ((below_alloc hb2).mono (by have := HB1.out.size; omega)))
  have C2 := HC1.out.below (below_alloc hb2)
  have hle2 := hb2.size
  rw [World.size_alloc] at hle2
  obtain ⟨ad, e1, _, cc⟩ := C2 (by decide)
  cases e1
  have c1 := cc 1 (.string ⟨#[98]⟩) rfl
  rw [add_zero_block] at c1
  have HC2 := Lib.hid C2
  have HP2 := Lib.hid P2
  clear C2 P2 cc HC1 hb2
  go_wp2_with (fail)
  refine (joinA g c _ hle (HC2.out.below ((Below.refl _ _).alloc (Nat.le_refl _) _))).mono ?_
  rintro e w3 ⟨rfl, hb3⟩
  have HB3 := Lib.hid (HB2.out.trans ((below_alloc hb3).mono (by have := HB2.out.size; omega)))
  clear hb3 z0 z1 z2 c1
  go_wp2_with (fail)
  refine (checkA _).mono ?_
  rintro e w4 ⟨rfl, hb4⟩
  have HB4 := Lib.hid (HB3.out.trans (hb4.mono HB3.out.size))
  clear hb4
  go_wp2_with (fail)
  refine (dotsA _).mono ?_
  rintro e w5 ⟨rfl, rfl⟩
  go_wp2_with (fail)
  refine (dotsX _).mono ?_
  rintro e w5 ⟨rfl, rfl⟩
  go_wp2_with (fail)
  refine (bucketA _ (HT.out.below HB4.out)).mono ?_
  rintro e w5 ⟨rfl, rfl⟩
  go_wp2_with (fail)
  refine (checkB _).mono ?_
  rintro e w6 ⟨rfl, hb6⟩
  have HB6 := Lib.hid (HB4.out.trans (hb6.mono HB4.out.size))
  clear hb6
  go_wp2_with (fail)
  go_ret
  exact ⟨rfl, HB6.out⟩
end Go.Proofs.YtganpdplikbppaaDoor
