/- name.Join, and the document's. -/
import Derived.Test.YtganpdplikbppaaDoorNm7
set_option linter.unusedSimpArgs false
set_option linter.unusedVariables false
namespace Go.Proofs.YtganpdplikbppaaDoor
open Go.RowKit Go.Lib

theorem tl_app (a b : ByteArray) : tl (a ++ b) = tl a ++ tl b := by simp [tl]
theorem tl_mk (l : List UInt8) : tl ⟨l.toArray⟩ = l := rfl
/-- strings.Join, at a slash. -/
theorem sjoin_calls (A : Option Addr) (xs : List ByteArray) (c : Nat) (w : World) (hF : ∀ ad, A = some ad → ∃ g, ad = ⟨g, 0, none⟩) (hc : Cel w A (sv xs)) (hle : xs.length ≤ c) (hl : xs.length ≤ 1099511627776) (hlen : (join (xs.map tl) [47]).length ≤ 1099511627776) :
    Calls Tryd.prog 30 #[.slice A xs.length c, .string ⟨#[47]⟩] w fun e w' => e = .returned (.string ⟨(join (xs.map tl) [47]).toArray⟩) ∧ Below w.heap.size w w' := by
  by_cases h0 : xs = []
  · subst h0
    exact (Tryd.strings_Join_none A c ⟨#[47]⟩ w).mono fun e w' ⟨h1, h2⟩ => ⟨h1, h2 ▸ Below.refl _ _⟩
  · obtain ⟨ad, rfl, hlt, hcell⟩ := hc (by rw [sv_length]; exact List.length_pos_iff.2 h0)
    obtain ⟨g, rfl⟩ := hF ad rfl
    exact Tryd.strings_Join g 0 c xs ⟨#[47]⟩ w (fun j x hx => by have := hcell j _ (sv_at hx); rw [add_zero_block] at this; rw [Nat.zero_add]; exact this) hlt (by omega) hle (Nat.le_trans (show (join (xs.map tl) [47]).length ≤ _ from hlen) (by decide))
theorem tail_no {L : List (List UInt8)} : tailB false L = false := rfl
theorem tail_nil {d : Bool} : tailB d [] = false := by cases d <;> rfl
theorem tail_ends {d : Bool} {L : List (List UInt8)} (h : endsB L = true) : tailB d L = false := by unfold tailB; rw [h]; simp
theorem tail_yes {L : List (List UInt8)} (h0 : L ≠ []) (h : endsB L = false) : tailB true L = true := by
  unfold tailB
  have : L.isEmpty = false := by simpa using h0
  rw [h, this]; rfl
set_option maxRecDepth 100000 in
set_option maxHeartbeats 4000000 in
theorem join_calls (r d : Bool) (A : Option Addr) (xs : List ByteArray) (c : Nat) (w : World) (hF : ∀ ad, A = some ad → ∃ g, ad = ⟨g, 0, none⟩) (hc : Cel w A (sv xs)) (hle : xs.length ≤ c) (hl : xs.length ≤ 1099511627776) (hlen : (join (xs.map tl) [47]).length ≤ 1099511627776) :
    Calls Tryd.prog 18 #[pv r d A xs.length c] w fun e w' => ∃ t, e = .returned (.string t) ∧ tl t = joinV r d (xs.map tl) ∧ Below w.heap.size w w' := by
  unfold pv
  have hb0 : Below w.heap.size w (w.alloc (.cells #[.bool r, .bool d, .slice A xs.length c] 29)) := (Below.refl _ _).alloc (Nat.le_refl _) _
  have hj := sjoin_calls A xs c _ hF (hc.below hb0) hle hl hlen
  have HC := Lib.hid (hc.below hb0)
  obtain ⟨J, hJ⟩ : ∃ J : ByteArray, (⟨(join (xs.map tl) [47]).toArray⟩ : ByteArray) = J := ⟨_, rfl⟩
  have hJl : tl J = join (xs.map tl) [47] := by rw [← hJ]
  rw [hJ] at hj
  have hJs : J.size ≤ 1099511627776 := by rw [size_eq, show J.data.toList = _ from hJl]; exact hlen
  have HJ := Lib.hid hJl
  have HB0 := Lib.hid hb0
  clear hc hb0 hJl hJ hF hlen
  cases r with
  | true =>
    cases d with
    | false =>
      go_enter Tryd.func18, Tryd.ntmps18
      go_wp2_with (go_at_call 30; refine hj.mono ?_; rintro e w1 ⟨rfl, hb1⟩; obtain ⟨z0, z1, z2⟩ := three_cells (alloc_later hb1))
      go_ret
      refine ⟨_, rfl, ?_, HB0.out.trans (hb1.mono (by rw [World.size_alloc]; omega))⟩
      unfold joinV
      rw [tail_no]
      simp only [tl_app, tl_mk, HJ.out, if_true, Bool.false_eq_true, if_false, List.nil_append, List.append_nil]
    | true =>
      by_cases h0 : xs = []
      · subst h0
        go_enter Tryd.func18, Tryd.ntmps18
        go_wp2_with (go_at_call 30; refine hj.mono ?_; rintro e w1 ⟨rfl, hb1⟩; obtain ⟨z0, z1, z2⟩ := three_cells (alloc_later hb1))
        go_ret
        refine ⟨_, rfl, ?_, HB0.out.trans (hb1.mono (by rw [World.size_alloc]; omega))⟩
        unfold joinV
        rw [show tailB true (([] : List ByteArray).map tl) = false from rfl]
        simp only [tl_app, tl_mk, HJ.out, if_true, Bool.false_eq_true, if_false, List.nil_append, List.append_nil]
      · have hpos : 0 < xs.length := List.length_pos_iff.2 h0
        have hne : xs.map tl ≠ [] := by simpa using h0
        clear h0
        cases hE : endsB (xs.map tl) with
        | true =>
          go_enter Tryd.func18, Tryd.ntmps18
          go_wp2_with (first
      | (go_at_call 30; refine hj.mono ?_; rintro e w1 ⟨rfl, hb1⟩; obtain ⟨z0, z1, z2⟩ := three_cells (alloc_later hb1); have hc1 := HC.out.below hb1; have HC1 := Lib.hid hc1; clear hc1)
      | (go_at_call 28; refine (ends_calls A xs c w1 HC1.out hl).mono ?_; rintro e w2 ⟨rfl, hx⟩; rw [hx, hE]))
          go_ret
          refine ⟨_, rfl, ?_, HB0.out.trans (hb1.mono (by rw [World.size_alloc]; omega))⟩
          unfold joinV
          rw [tail_ends hE]
          simp only [tl_app, tl_mk, HJ.out, if_true, Bool.false_eq_true, if_false, List.nil_append, List.append_nil]
        | false =>
          go_enter Tryd.func18, Tryd.ntmps18
          go_wp2_with (first
      | (go_at_call 30; refine hj.mono ?_; rintro e w1 ⟨rfl, hb1⟩; obtain ⟨z0, z1, z2⟩ := three_cells (alloc_later hb1); have hc1 := HC.out.below hb1; have HC1 := Lib.hid hc1; clear hc1)
      | (go_at_call 28; refine (ends_calls A xs c w1 HC1.out hl).mono ?_; rintro e w2 ⟨rfl, hx⟩; rw [hx, hE]))
          go_ret
          refine ⟨_, rfl, ?_, HB0.out.trans (hb1.mono (by rw [World.size_alloc]; omega))⟩
          unfold joinV
          rw [tail_yes hne hE]
          simp only [tl_app, tl_mk, HJ.out, if_true, Bool.false_eq_true, if_false, List.nil_append, List.append_nil]
  | false =>
    cases d with
    | false =>
      go_enter Tryd.func18, Tryd.ntmps18
      go_wp2_with (go_at_call 30; refine hj.mono ?_; rintro e w1 ⟨rfl, hb1⟩; obtain ⟨z0, z1, z2⟩ := three_cells (alloc_later hb1))
      go_ret
      refine ⟨_, rfl, ?_, HB0.out.trans (hb1.mono (by rw [World.size_alloc]; omega))⟩
      unfold joinV
      rw [tail_no]
      simp only [tl_app, tl_mk, HJ.out, if_true, Bool.false_eq_true, if_false, List.nil_append, List.append_nil]
    | true =>
      by_cases h0 : xs = []
      · subst h0
        go_enter Tryd.func18, Tryd.ntmps18
        go_wp2_with (go_at_call 30; refine hj.mono ?_; rintro e w1 ⟨rfl, hb1⟩; obtain ⟨z0, z1, z2⟩ := three_cells (alloc_later hb1))
        go_ret
        refine ⟨_, rfl, ?_, HB0.out.trans (hb1.mono (by rw [World.size_alloc]; omega))⟩
        unfold joinV
        rw [show tailB true (([] : List ByteArray).map tl) = false from rfl]
        simp only [tl_app, tl_mk, HJ.out, if_true, Bool.false_eq_true, if_false, List.nil_append, List.append_nil]
      · have hpos : 0 < xs.length := List.length_pos_iff.2 h0
        have hne : xs.map tl ≠ [] := by simpa using h0
        clear h0
        cases hE : endsB (xs.map tl) with
        | true =>
          go_enter Tryd.func18, Tryd.ntmps18
          go_wp2_with (first
      | (go_at_call 30; refine hj.mono ?_; rintro e w1 ⟨rfl, hb1⟩; obtain ⟨z0, z1, z2⟩ := three_cells (alloc_later hb1); have hc1 := HC.out.below hb1; have HC1 := Lib.hid hc1; clear hc1)
      | (go_at_call 28; refine (ends_calls A xs c w1 HC1.out hl).mono ?_; rintro e w2 ⟨rfl, hx⟩; rw [hx, hE]))
          go_ret
          refine ⟨_, rfl, ?_, HB0.out.trans (hb1.mono (by rw [World.size_alloc]; omega))⟩
          unfold joinV
          rw [tail_ends hE]
          simp only [tl_app, tl_mk, HJ.out, if_true, Bool.false_eq_true, if_false, List.nil_append, List.append_nil]
        | false =>
          go_enter Tryd.func18, Tryd.ntmps18
          go_wp2_with (first
      | (go_at_call 30; refine hj.mono ?_; rintro e w1 ⟨rfl, hb1⟩; obtain ⟨z0, z1, z2⟩ := three_cells (alloc_later hb1); have hc1 := HC.out.below hb1; have HC1 := Lib.hid hc1; clear hc1)
      | (go_at_call 28; refine (ends_calls A xs c w1 HC1.out hl).mono ?_; rintro e w2 ⟨rfl, hx⟩; rw [hx, hE]))
          go_ret
          refine ⟨_, rfl, ?_, HB0.out.trans (hb1.mono (by rw [World.size_alloc]; omega))⟩
          unfold joinV
          rw [tail_yes hne hE]
          simp only [tl_app, tl_mk, HJ.out, if_true, Bool.false_eq_true, if_false, List.nil_append, List.append_nil]
end Go.Proofs.YtganpdplikbppaaDoor
