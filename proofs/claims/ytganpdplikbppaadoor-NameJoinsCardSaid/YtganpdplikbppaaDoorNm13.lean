/- The document's Join. -/
import Derived.Test.YtganpdplikbppaaDoorNm12
set_option linter.unusedSimpArgs false
set_option linter.unusedVariables false
namespace Go.Proofs.YtganpdplikbppaaDoor
open Go.RowKit Go.Lib

theorem join_snoc (L : List (List UInt8)) (x : List UInt8) : join (L ++ [x]) [47] = if L = [] then x else join L [47] ++ [47] ++ x := by
  cases L with
  | nil => exact join_one x [47]
  | cons p r =>
    rw [if_neg (by simp), List.cons_append, join_cons, join_cons]
    simp [joinTail]
theorem weight_take (L : List (List UInt8)) (k : Nat) : weight (L.take k) ≤ weight L := by
  unfold weight
  have h1 := lens_take_le L k
  have h2 : (L.take k).length ≤ L.length := by rw [List.length_take]; omega
  omega
theorem join_le_weight (L : List (List UInt8)) : (join L [47]).length ≤ weight L := by
  by_cases h : L = []
  · subst h; simp [join_nil]
  · have := join_weight h; omega
/-- What is written when k parts are. -/
def upTo (r : Bool) (xs : List ByteArray) (k : Nat) : List UInt8 := (if r = true then [47] else []) ++ join ((xs.take k).map tl) [47]
theorem upTo_zero (r : Bool) (xs : List ByteArray) : upTo r xs 0 = if r = true then [47] else [] := by
  unfold upTo; rw [List.take_zero]; simp [join_nil]
theorem upTo_one {r : Bool} {xs : List ByteArray} {x : ByteArray} (hx : xs[0]? = some x) : upTo r xs 1 = upTo r xs 0 ++ tl x := by
  unfold upTo
  rw [List.take_add_one, hx, List.take_zero]
  simp [join_nil, join_one]
theorem upTo_succ {r : Bool} {xs : List ByteArray} {k : Nat} {x : ByteArray} (hx : xs[k]? = some x) (hk : 0 < k) : upTo r xs (k + 1) = upTo r xs k ++ [47] ++ tl x := by
  have hlt := (List.getElem?_eq_some_iff.1 hx).1
  have hne : ¬ (xs.take k).map tl = [] := fun e => by
    have := congrArg List.length e
    rw [List.length_map, List.length_take, List.length_nil] at this
    omega
  have hj := join_snoc ((xs.take k).map tl) (tl x)
  rw [if_neg hne] at hj
  unfold upTo
  rw [List.take_add_one, hx, show (some x).toList = [x] from rfl, List.map_append, List.map_singleton, hj]
  simp
theorem upTo_le (r : Bool) (xs : List ByteArray) (k : Nat) : (upTo r xs k).length ≤ 1 + weight (xs.map tl) := by
  unfold upTo
  have h1 := join_le_weight ((xs.take k).map tl)
  have h2 := weight_take (xs.map tl) k
  rw [← List.map_take] at h2
  rw [List.length_append]
  have h3 : (if r = true then [47] else ([] : List UInt8)).length ≤ 1 := by cases r <;> simp
  omega
theorem upTo_all (r : Bool) (xs : List ByteArray) : upTo r xs xs.length = (if r = true then [47] else []) ++ join (xs.map tl) [47] := by
  unfold upTo; rw [List.take_length]
theorem part_le {xs : List ByteArray} {k : Nat} {x : ByteArray} (hx : xs[k]? = some x) : x.size ≤ weight (xs.map tl) := by
  have hm : tl x ∈ xs.map tl := List.mem_map.2 ⟨x, List.mem_of_getElem? hx, rfl⟩
  have key : ∀ L : List (List UInt8), tl x ∈ L → (tl x).length ≤ weight L := by
    intro L
    induction L with
    | nil => intro h; simp at h
    | cons p L ih =>
      intro h
      rw [weight_cons]
      rcases List.mem_cons.1 h with h | h
      · rw [h]; omega
      · have := ih h; omega
  rw [size_eq]; exact key _ hm
set_option maxRecDepth 100000 in
set_option maxHeartbeats 4000000 in
theorem rjoin_tt (A : Option Addr) (xs : List ByteArray) (n c : Nat) (w : World) (hn : Hid (xs.length = n)) (hc : Cel w A (sv xs)) (hl : n ≤ 1099511627776) (hw : weight (xs.map tl) ≤ 1099511627776) :
    Calls Tryd.prog 19 #[pv true true A n c] w fun e w' => ∃ t, e = .returned (.string t) ∧ tl t = joinV true true (xs.map tl) ∧ Below w.heap.size w w' := by
  unfold pv
  have hb0 : Below w.heap.size w (w.alloc (.cells #[.bool true, .bool true, .slice A n c] 29)) := (Below.refl _ _).alloc (Nat.le_refl _) _
  have HC := Lib.hid (hc.below hb0)
  have HB := Lib.hid hb0
  clear hc hb0
  go_enter Tryd.func19, Tryd.ntmps19
  go_wp2_with (fail)
  go_loop [3, 4] (fun t i => ∃ (k : Nat) (st : ByteArray), i = .int .i64 k ∧ t = .string st ∧ k ≤ n ∧ tl st = upTo true xs k) (fun _ i => n - (RowKit.intOf i).toNat)
  case atStart => exact ⟨0, ⟨#[47]⟩, rfl, rfl, Nat.zero_le _, by rw [upTo_zero]; rfl⟩
  case round =>
    obtain ⟨k, st, rfl, rfl, hk, hst⟩ := hrel
    have hsz : st.size ≤ 1 + weight (xs.map tl) := by rw [size_eq, show st.data.toList = _ from hst]; exact upTo_le _ _ _
    have HS := Lib.hid hst
    clear hst
    by_cases hkl : k < n
    · obtain ⟨x, hx⟩ : ∃ x, xs[k]? = some x := ⟨_, List.getElem?_eq_getElem (by rw [hn.out]; exact hkl)⟩
      obtain ⟨ad, rfl, hlt, hcell⟩ := HC.out (by rw [sv_length, hn.out]; omega)
      have hck := hcell k (.string x) (sv_at hx)
      have hxs := part_le hx
      have Hx := Lib.hid hx
      clear hcell hx
      by_cases h0 : k = 0
      · have hk0 : ¬ (0 : Int) < (k : Int) := by omega
        have H0 := Lib.hid h0
        clear h0
        go_wp2_with (fail)
        go_round
        case rel => exact ⟨k + 1, st ++ x, by go_num, rfl, by omega, by have := H0.out; subst this; rw [tl_app, HS.out, upTo_one Hx.out]⟩
        case measure => simp [RowKit.intOf] <;> omega
      · have hk0 : (0 : Int) < (k : Int) := by omega
        go_wp2_with (fail)
        go_round
        case rel => exact ⟨k + 1, st ++ ⟨#[47]⟩ ++ x, by go_num, rfl, by omega, by rw [tl_app, tl_app, HS.out, upTo_succ Hx.out (by omega)]⟩
        case measure => simp [RowKit.intOf] <;> omega
    · obtain rfl : k = n := by omega
      have HT := Lib.hid (HS.out.trans (hn.out ▸ upTo_all _ _))
      rcases List.eq_nil_or_concat xs with hxs | ⟨zs, e, hxs⟩
      · subst hxs
        obtain rfl : 0 = k := hn.out
        go_wp2_with (fail)
        go_ret
        refine ⟨_, rfl, ?_, HB.out⟩
        unfold joinV
        rw [tail_nil]
        simp only [tl_app, tl_mk, HT.out, if_true, Bool.false_eq_true, if_false, List.nil_append, List.append_nil, List.map_nil]
      · rw [List.concat_eq_append] at hxs
        subst hxs
        have he2 := Lib.hid (ends_snoc zs e)
        obtain ⟨ad, rfl, hlt, hcell⟩ := HC.out (by rw [sv_length, List.length_append]; simp)
        obtain ⟨m, hm⟩ : ∃ m, zs.length = m := ⟨_, rfl⟩
        obtain rfl : m + 1 = k := by have := hn.out; rw [List.length_append, hm] at this; exact this
        have hcd := hcell m (.string e) (sv_at (by rw [← hm]; simp))
        clear hcell hm
        have hne : (zs ++ [e]).map tl ≠ [] := by simp
        have hpos : (0 : Int) < (m : Int) + 1 := by omega
        have HNE := Lib.hid hne
        clear hne
        cases hD : dotsB (tl e) with
        | true =>
          go_wp2_with (go_at_call 12; refine (rdots_calls _ _).mono ?_; rintro e1 w1 ⟨rfl, hx⟩; rw [hx, show dotsB e.data.toList = true from hD])
          go_ret
          refine ⟨_, rfl, ?_, HB.out⟩
          unfold joinV
          rw [tail_ends (he2.out.trans hD)]
          simp only [tl_app, tl_mk, HT.out, if_true, Bool.false_eq_true, if_false, List.nil_append, List.append_nil, List.map_nil]
        | false =>
          go_wp2_with (go_at_call 12; refine (rdots_calls _ _).mono ?_; rintro e1 w1 ⟨rfl, hx⟩; rw [hx, show dotsB e.data.toList = false from hD])
          go_ret
          refine ⟨_, rfl, ?_, HB.out⟩
          unfold joinV
          rw [tail_yes HNE.out (he2.out.trans hD)]
          simp only [tl_app, tl_mk, HT.out, if_true, Bool.false_eq_true, if_false, List.nil_append, List.append_nil, List.map_nil]
set_option maxRecDepth 100000 in
set_option maxHeartbeats 4000000 in
theorem rjoin_tf (A : Option Addr) (xs : List ByteArray) (n c : Nat) (w : World) (hn : Hid (xs.length = n)) (hc : Cel w A (sv xs)) (hl : n ≤ 1099511627776) (hw : weight (xs.map tl) ≤ 1099511627776) :
    Calls Tryd.prog 19 #[pv true false A n c] w fun e w' => ∃ t, e = .returned (.string t) ∧ tl t = joinV true false (xs.map tl) ∧ Below w.heap.size w w' := by
  unfold pv
  have hb0 : Below w.heap.size w (w.alloc (.cells #[.bool true, .bool false, .slice A n c] 29)) := (Below.refl _ _).alloc (Nat.le_refl _) _
  have HC := Lib.hid (hc.below hb0)
  have HB := Lib.hid hb0
  clear hc hb0
  go_enter Tryd.func19, Tryd.ntmps19
  go_wp2_with (fail)
  go_loop [3, 4] (fun t i => ∃ (k : Nat) (st : ByteArray), i = .int .i64 k ∧ t = .string st ∧ k ≤ n ∧ tl st = upTo true xs k) (fun _ i => n - (RowKit.intOf i).toNat)
  case atStart => exact ⟨0, ⟨#[47]⟩, rfl, rfl, Nat.zero_le _, by rw [upTo_zero]; rfl⟩
  case round =>
    obtain ⟨k, st, rfl, rfl, hk, hst⟩ := hrel
    have hsz : st.size ≤ 1 + weight (xs.map tl) := by rw [size_eq, show st.data.toList = _ from hst]; exact upTo_le _ _ _
    have HS := Lib.hid hst
    clear hst
    by_cases hkl : k < n
    · obtain ⟨x, hx⟩ : ∃ x, xs[k]? = some x := ⟨_, List.getElem?_eq_getElem (by rw [hn.out]; exact hkl)⟩
      obtain ⟨ad, rfl, hlt, hcell⟩ := HC.out (by rw [sv_length, hn.out]; omega)
      have hck := hcell k (.string x) (sv_at hx)
      have hxs := part_le hx
      have Hx := Lib.hid hx
      clear hcell hx
      by_cases h0 : k = 0
      · have hk0 : ¬ (0 : Int) < (k : Int) := by omega
        have H0 := Lib.hid h0
        clear h0
        go_wp2_with (fail)
        go_round
        case rel => exact ⟨k + 1, st ++ x, by go_num, rfl, by omega, by have := H0.out; subst this; rw [tl_app, HS.out, upTo_one Hx.out]⟩
        case measure => simp [RowKit.intOf] <;> omega
      · have hk0 : (0 : Int) < (k : Int) := by omega
        go_wp2_with (fail)
        go_round
        case rel => exact ⟨k + 1, st ++ ⟨#[47]⟩ ++ x, by go_num, rfl, by omega, by rw [tl_app, tl_app, HS.out, upTo_succ Hx.out (by omega)]⟩
        case measure => simp [RowKit.intOf] <;> omega
    · obtain rfl : k = n := by omega
      have HT := Lib.hid (HS.out.trans (hn.out ▸ upTo_all _ _))
      go_wp2_with (fail)
      go_ret
      refine ⟨_, rfl, ?_, HB.out⟩
      unfold joinV
      rw [tail_no]
      simp only [tl_app, tl_mk, HT.out, if_true, Bool.false_eq_true, if_false, List.nil_append, List.append_nil, List.map_nil]
set_option maxRecDepth 100000 in
set_option maxHeartbeats 4000000 in
theorem rjoin_ft (A : Option Addr) (xs : List ByteArray) (n c : Nat) (w : World) (hn : Hid (xs.length = n)) (hc : Cel w A (sv xs)) (hl : n ≤ 1099511627776) (hw : weight (xs.map tl) ≤ 1099511627776) :
    Calls Tryd.prog 19 #[pv false true A n c] w fun e w' => ∃ t, e = .returned (.string t) ∧ tl t = joinV false true (xs.map tl) ∧ Below w.heap.size w w' := by
  unfold pv
  have hb0 : Below w.heap.size w (w.alloc (.cells #[.bool false, .bool true, .slice A n c] 29)) := (Below.refl _ _).alloc (Nat.le_refl _) _
  have HC := Lib.hid (hc.below hb0)
  have HB := Lib.hid hb0
  clear hc hb0
  go_enter Tryd.func19, Tryd.ntmps19
  go_wp2_with (fail)
  go_loop [3, 4] (fun t i => ∃ (k : Nat) (st : ByteArray), i = .int .i64 k ∧ t = .string st ∧ k ≤ n ∧ tl st = upTo false xs k) (fun _ i => n - (RowKit.intOf i).toNat)
  case atStart => exact ⟨0, ⟨#[]⟩, rfl, rfl, Nat.zero_le _, by rw [upTo_zero]; rfl⟩
  case round =>
    obtain ⟨k, st, rfl, rfl, hk, hst⟩ := hrel
    have hsz : st.size ≤ 1 + weight (xs.map tl) := by rw [size_eq, show st.data.toList = _ from hst]; exact upTo_le _ _ _
    have HS := Lib.hid hst
    clear hst
    by_cases hkl : k < n
    · obtain ⟨x, hx⟩ : ∃ x, xs[k]? = some x := ⟨_, List.getElem?_eq_getElem (by rw [hn.out]; exact hkl)⟩
      obtain ⟨ad, rfl, hlt, hcell⟩ := HC.out (by rw [sv_length, hn.out]; omega)
      have hck := hcell k (.string x) (sv_at hx)
      have hxs := part_le hx
      have Hx := Lib.hid hx
      clear hcell hx
      by_cases h0 : k = 0
      · have hk0 : ¬ (0 : Int) < (k : Int) := by omega
        have H0 := Lib.hid h0
        clear h0
        go_wp2_with (fail)
        go_round
        case rel => exact ⟨k + 1, st ++ x, by go_num, rfl, by omega, by have := H0.out; subst this; rw [tl_app, HS.out, upTo_one Hx.out]⟩
        case measure => simp [RowKit.intOf] <;> omega
      · have hk0 : (0 : Int) < (k : Int) := by omega
        go_wp2_with (fail)
        go_round
        case rel => exact ⟨k + 1, st ++ ⟨#[47]⟩ ++ x, by go_num, rfl, by omega, by rw [tl_app, tl_app, HS.out, upTo_succ Hx.out (by omega)]⟩
        case measure => simp [RowKit.intOf] <;> omega
    · obtain rfl : k = n := by omega
      have HT := Lib.hid (HS.out.trans (hn.out ▸ upTo_all _ _))
      rcases List.eq_nil_or_concat xs with hxs | ⟨zs, e, hxs⟩
      · subst hxs
        obtain rfl : 0 = k := hn.out
        go_wp2_with (fail)
        go_ret
        refine ⟨_, rfl, ?_, HB.out⟩
        unfold joinV
        rw [tail_nil]
        simp only [tl_app, tl_mk, HT.out, if_true, Bool.false_eq_true, if_false, List.nil_append, List.append_nil, List.map_nil]
      · rw [List.concat_eq_append] at hxs
        subst hxs
        have he2 := Lib.hid (ends_snoc zs e)
        obtain ⟨ad, rfl, hlt, hcell⟩ := HC.out (by rw [sv_length, List.length_append]; simp)
        obtain ⟨m, hm⟩ : ∃ m, zs.length = m := ⟨_, rfl⟩
        obtain rfl : m + 1 = k := by have := hn.out; rw [List.length_append, hm] at this; exact this
        have hcd := hcell m (.string e) (sv_at (by rw [← hm]; simp))
        clear hcell hm
        have hne : (zs ++ [e]).map tl ≠ [] := by simp
        have hpos : (0 : Int) < (m : Int) + 1 := by omega
        have HNE := Lib.hid hne
        clear hne
        cases hD : dotsB (tl e) with
        | true =>
          go_wp2_with (go_at_call 12; refine (rdots_calls _ _).mono ?_; rintro e1 w1 ⟨rfl, hx⟩; rw [hx, show dotsB e.data.toList = true from hD])
          go_ret
          refine ⟨_, rfl, ?_, HB.out⟩
          unfold joinV
          rw [tail_ends (he2.out.trans hD)]
          simp only [tl_app, tl_mk, HT.out, if_true, Bool.false_eq_true, if_false, List.nil_append, List.append_nil, List.map_nil]
        | false =>
          go_wp2_with (go_at_call 12; refine (rdots_calls _ _).mono ?_; rintro e1 w1 ⟨rfl, hx⟩; rw [hx, show dotsB e.data.toList = false from hD])
          go_ret
          refine ⟨_, rfl, ?_, HB.out⟩
          unfold joinV
          rw [tail_yes HNE.out (he2.out.trans hD)]
          simp only [tl_app, tl_mk, HT.out, if_true, Bool.false_eq_true, if_false, List.nil_append, List.append_nil, List.map_nil]
set_option maxRecDepth 100000 in
set_option maxHeartbeats 4000000 in
theorem rjoin_ff (A : Option Addr) (xs : List ByteArray) (n c : Nat) (w : World) (hn : Hid (xs.length = n)) (hc : Cel w A (sv xs)) (hl : n ≤ 1099511627776) (hw : weight (xs.map tl) ≤ 1099511627776) :
    Calls Tryd.prog 19 #[pv false false A n c] w fun e w' => ∃ t, e = .returned (.string t) ∧ tl t = joinV false false (xs.map tl) ∧ Below w.heap.size w w' := by
  unfold pv
  have hb0 : Below w.heap.size w (w.alloc (.cells #[.bool false, .bool false, .slice A n c] 29)) := (Below.refl _ _).alloc (Nat.le_refl _) _
  have HC := Lib.hid (hc.below hb0)
  have HB := Lib.hid hb0
  clear hc hb0
  go_enter Tryd.func19, Tryd.ntmps19
  go_wp2_with (fail)
  go_loop [3, 4] (fun t i => ∃ (k : Nat) (st : ByteArray), i = .int .i64 k ∧ t = .string st ∧ k ≤ n ∧ tl st = upTo false xs k) (fun _ i => n - (RowKit.intOf i).toNat)
  case atStart => exact ⟨0, ⟨#[]⟩, rfl, rfl, Nat.zero_le _, by rw [upTo_zero]; rfl⟩
  case round =>
    obtain ⟨k, st, rfl, rfl, hk, hst⟩ := hrel
    have hsz : st.size ≤ 1 + weight (xs.map tl) := by rw [size_eq, show st.data.toList = _ from hst]; exact upTo_le _ _ _
    have HS := Lib.hid hst
    clear hst
    by_cases hkl : k < n
    · obtain ⟨x, hx⟩ : ∃ x, xs[k]? = some x := ⟨_, List.getElem?_eq_getElem (by rw [hn.out]; exact hkl)⟩
      obtain ⟨ad, rfl, hlt, hcell⟩ := HC.out (by rw [sv_length, hn.out]; omega)
      have hck := hcell k (.string x) (sv_at hx)
      have hxs := part_le hx
      have Hx := Lib.hid hx
      clear hcell hx
      by_cases h0 : k = 0
      · have hk0 : ¬ (0 : Int) < (k : Int) := by omega
        have H0 := Lib.hid h0
        clear h0
        go_wp2_with (fail)
        go_round
        case rel => exact ⟨k + 1, st ++ x, by go_num, rfl, by omega, by have := H0.out; subst this; rw [tl_app, HS.out, upTo_one Hx.out]⟩
        case measure => simp [RowKit.intOf] <;> omega
      · have hk0 : (0 : Int) < (k : Int) := by omega
        go_wp2_with (fail)
        go_round
        case rel => exact ⟨k + 1, st ++ ⟨#[47]⟩ ++ x, by go_num, rfl, by omega, by rw [tl_app, tl_app, HS.out, upTo_succ Hx.out (by omega)]⟩
        case measure => simp [RowKit.intOf] <;> omega
    · obtain rfl : k = n := by omega
      have HT := Lib.hid (HS.out.trans (hn.out ▸ upTo_all _ _))
      go_wp2_with (fail)
      go_ret
      refine ⟨_, rfl, ?_, HB.out⟩
      unfold joinV
      rw [tail_no]
      simp only [tl_app, tl_mk, HT.out, if_true, Bool.false_eq_true, if_false, List.nil_append, List.append_nil, List.map_nil]
theorem rjoin_calls (r d : Bool) (A : Option Addr) (xs : List ByteArray) (c : Nat) (w : World) (hc : Cel w A (sv xs)) (hl : xs.length ≤ 1099511627776) (hw : weight (xs.map tl) ≤ 1099511627776) :
    Calls Tryd.prog 19 #[pv r d A xs.length c] w fun e w' => ∃ t, e = .returned (.string t) ∧ tl t = joinV r d (xs.map tl) ∧ Below w.heap.size w w' := by
  cases r <;> cases d
  · exact rjoin_ff A xs _ c w (show Hid (xs.length = _) from rfl) hc hl hw
  · exact rjoin_ft A xs _ c w (show Hid (xs.length = _) from rfl) hc hl hw
  · exact rjoin_tf A xs _ c w (show Hid (xs.length = _) from rfl) hc hl hw
  · exact rjoin_tt A xs _ c w (show Hid (xs.length = _) from rfl) hc hl hw
end Go.Proofs.YtganpdplikbppaaDoor
