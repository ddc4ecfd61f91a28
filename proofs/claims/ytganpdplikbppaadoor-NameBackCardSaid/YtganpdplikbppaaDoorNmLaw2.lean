/- NameBack. -/
import Derived.Test.YtganpdplikbppaaDoorNmLaw1
import Derived.Test.YtganpdplikbppaaDoorNm13
set_option linter.unusedSimpArgs false
set_option linter.unusedVariables false
namespace Go.Proofs.YtganpdplikbppaaDoor
open Go.RowKit Go.Lib SumMath

theorem split_back {s t : ByteArray} (h : splitE (tl s) = 0) (ht : tl t = joinV (rootB (tl s)) (dirB (tl s)) (ptsL (tl s))) :
    t.size ≤ s.size ∧ splitE (tl t) = 0 ∧ ptsL (tl t) = ptsL (tl s) ∧ rootB (tl t) = rootB (tl s) ∧ dirB (tl t) = dirB (tl s) := by
  have := back h
  rw [← ht] at this
  rw [size_eq, size_eq]
  exact this
theorem join_le_V (r d : Bool) (L : List (List UInt8)) : (join L [47]).length ≤ (joinV r d L).length := by
  unfold joinV
  simp only [List.length_append]
  omega
theorem part_check {l : List UInt8} {xs : List ByteArray} {k : Nat} {x : ByteArray} (h : splitE l = 0) (hx : xs.map tl = ptsL l) (hk : xs[k]? = some x) : checkE x.data.toList = 0 :=
  part_ok h (by rw [← hx]; exact List.mem_map.2 ⟨x, List.mem_of_getElem? hk, rfl⟩)
set_option maxRecDepth 100000 in
set_option maxHeartbeats 8000000 in
theorem back_t (s : ByteArray) (w : World) (hT : TabAt w) (hs : s.size ≤ 1024) (hz : splitE (tl s) = 0) (hr : rootB (tl s) = true) :
    Calls Tryd.prog 6 #[.string s] w fun e w' => e = .returned (.bool true) ∧ Below w.heap.size w w' := by
  have HT := Lib.hid hT
  have hs' : (s.size : Int) ≤ 1024 := by omega
  have HZ := Lib.hid hz
  have HR := Lib.hid hr
  clear hT hz hr
  go_enter Tryd.func6, Tryd.ntmps6
  go_wp2_with (fail)
  refine (split_calls s _ (by omega)).mono ?_
  intro e w1 h1
  obtain ⟨xs, A, c, hb1, hc1, hle, hl, hF, hok, _⟩ := h1
  obtain ⟨hx, rfl⟩ := hok HZ.out
  unfold pv
  rw [HR.out]
  obtain ⟨d, hd⟩ : ∃ d, dirB (tl s) = d := ⟨_, rfl⟩
  rw [hd]
  have HD := Lib.hid hd
  have HX := Lib.hid hx
  have HF := Lib.hid hF
  have HC1 := Lib.hid hc1
  have HB1 := Lib.hid hb1
  clear hok hx hF hc1 hb1 hd
  go_wp2_with (fail)
  go_loopw [5] (fun i wr => ∃ k : Nat, i = .int .i64 k ∧ k ≤ xs.length ∧ Below (w1.alloc (.cells #[.bool true, .bool d, .slice A xs.length c] 29)).heap.size (w1.alloc (.cells #[.bool true, .bool d, .slice A xs.length c] 29)) wr) (fun i _ => xs.length - (RowKit.intOf i).toNat)
  case atStart => exact ⟨0, rfl, Nat.zero_le _, Below.refl _ _⟩
  case round =>
    obtain ⟨k, rfl, hk, hbr⟩ := hrel
    have P := alloc_later hbr
    obtain ⟨z0, z1, z2⟩ := three_cells P
    have hlw := lt_of_cells P
    have HBR := Lib.hid hbr
    have HP := Lib.hid P
    have HCR := Lib.hid (HC1.out.below (below_alloc hbr))
    clear hbr P
    by_cases hkl : k < xs.length
    · obtain ⟨x, hx⟩ : ∃ x, xs[k]? = some x := ⟨_, List.getElem?_eq_getElem hkl⟩
      obtain ⟨ad, rfl, hlt, hcell⟩ := HCR.out (by rw [sv_length]; omega)
      have hck := hcell k (.string x) (sv_at hx)
      have hch := Lib.hid (part_check HZ.out HX.out hx)
      have hxs : x.size ≤ 1024 := by
        have h1 := hch.out
        unfold checkE at h1
        split at h1
        · simp at h1
        · split at h1
          · simp at h1
          · split at h1
            · simp at h1
            · rw [size_eq]; omega
      clear hcell hx
      go_wp2_with (fail)
      refine (check_calls x _ (by omega)).mono ?_
      rintro e w2 ⟨rfl, hb2⟩
      rw [hch.out]
      have HB2 := Lib.hid (HBR.out.trans (hb2.mono HBR.out.size))
      clear hb2
      go_wp2_with (fail)
      go_roundw
      case rel => exact ⟨k + 1, by go_num, by omega, HB2.out⟩
      case measure => simp [RowKit.intOf] <;> omega
    · obtain rfl : k = xs.length := by omega
      have hjl : (join (xs.map tl) [47]).length ≤ 1099511627776 := by
        have h1 := (back HZ.out).1
        have h2 := join_le_V (rootB (tl s)) (dirB (tl s)) (ptsL (tl s))
        rw [← size_eq s] at h1
        rw [HX.out]
        omega
      go_wp2_with (fail)
      refine (join_calls true d A xs c _ (fun ad e => by obtain ⟨g, h, _⟩ := HF.out ad e; exact ⟨g, h⟩) HCR.out hle (by omega) hjl).mono ?_
      rintro e w3 ⟨t, rfl, ht, hb3⟩
      obtain ⟨q1, q2, q3, q4, q5⟩ := split_back (s := s) (t := t) HZ.out (by rw [ht, HX.out, HR.out, HD.out])
      have P3 := (hb3.block _ hlw).trans HP.out
      obtain ⟨y0, y1, y2⟩ := three_cells P3
      have hl3 := lt_of_cells P3
      have HP3 := Lib.hid P3
      have HC3 := Lib.hid (HCR.out.below hb3)
      have HB3 := Lib.hid ((HB1.out.trans ((below_alloc HBR.out).mono (by have := HB1.out.size; omega))).trans (hb3.mono (by have h1 := HB1.out.size; have h2 := (below_alloc HBR.out).size; omega)))
      have HT3 := Lib.hid ht
      have Q2 := Lib.hid q2
      have Q3 := Lib.hid q3
      have Q4 := Lib.hid q4
      have Q5 := Lib.hid q5
      have q1' : (t.size : Int) ≤ (s.size : Int) := by omega
      clear ht q2 q3 q4 q5 P3 hb3 z0 z1 z2
      go_wp2_with (fail)
      refine (split_calls t _ (by omega)).mono ?_
      intro e w4 h4
      obtain ⟨ys, A2, c2, hb4, hc4, hle4, hl4, hF4, hok4, _⟩ := h4
      obtain ⟨hy, rfl⟩ := hok4 Q2.out
      obtain rfl : ys = xs := map_tl_inj (hy.trans (Q3.out.trans HX.out.symm))
      unfold pv
      rw [Q4.out, Q5.out, HR.out, HD.out]
      have P4 := (hb4.block _ hl3).trans HP3.out
      obtain ⟨x0, x1, x2⟩ := three_cells P4
      have hl4' := lt_of_cells P4
      have HC4 := Lib.hid (HC3.out.below hb4)
      have HC5 := Lib.hid hc4
      have HB4 := Lib.hid (HB3.out.trans (hb4.mono HB3.out.size))
      have HF4 := Lib.hid hF4
      clear hy hok4 hb4 hc4 hF4 P4 y0 y1 y2
      go_wp2_with (fail)
      refine (same_calls true d A A2 ys c c2 _ (HC4.out.below ((Below.refl _ _).alloc (Nat.le_refl _) _)) (HC5.out.below ((Below.refl _ _).alloc (Nat.le_refl _) _)) (by omega)).mono ?_
      rintro e w5 ⟨rfl, hb5⟩
      have P5 := alloc_later hb5
      obtain ⟨v0, v1, v2⟩ := three_cells P5
      have hl5 := lt_of_cells P5
      have HC6 := Lib.hid ((HC5.out.below ((Below.refl _ _).alloc (Nat.le_refl _) _)).below hb5)
      have HB5 := Lib.hid (HB4.out.trans ((below_alloc hb5).mono HB4.out.size))
      clear hb5 P5 x0 x1 x2
      go_wp2_with (fail)
      refine (join_calls true d A2 ys c2 _ (fun ad e => by obtain ⟨g, h, _⟩ := HF4.out ad e; exact ⟨g, h⟩) HC6.out hle4 (by omega) hjl).mono ?_
      rintro e w6 ⟨t2, rfl, ht2, hb6⟩
      obtain rfl : t2 = t := tl_inj (ht2.trans HT3.out.symm)
      have HB6 := Lib.hid (HB5.out.trans (hb6.mono HB5.out.size))
      clear ht2 hb6 v0 v1 v2
      go_wp2_with (fail)
      refine (alive_calls _ (HT.out.below HB6.out)).mono ?_
      rintro e w7 ⟨rfl, hb7⟩
      have HB7 := Lib.hid (HB6.out.trans (hb7.mono HB6.out.size))
      clear hb7
      go_wp2_with (fail)
      go_ret
      exact ⟨rfl, HB7.out⟩
set_option maxRecDepth 100000 in
set_option maxHeartbeats 8000000 in
theorem back_f (s : ByteArray) (w : World) (hT : TabAt w) (hs : s.size ≤ 1024) (hz : splitE (tl s) = 0) (hr : rootB (tl s) = false) :
    Calls Tryd.prog 6 #[.string s] w fun e w' => e = .returned (.bool true) ∧ Below w.heap.size w w' := by
  have HT := Lib.hid hT
  have hs' : (s.size : Int) ≤ 1024 := by omega
  have HZ := Lib.hid hz
  have HR := Lib.hid hr
  clear hT hz hr
  go_enter Tryd.func6, Tryd.ntmps6
  go_wp2_with (fail)
  refine (split_calls s _ (by omega)).mono ?_
  intro e w1 h1
  obtain ⟨xs, A, c, hb1, hc1, hle, hl, hF, hok, _⟩ := h1
  obtain ⟨hx, rfl⟩ := hok HZ.out
  unfold pv
  rw [HR.out]
  obtain ⟨d, hd⟩ : ∃ d, dirB (tl s) = d := ⟨_, rfl⟩
  rw [hd]
  have HD := Lib.hid hd
  have HX := Lib.hid hx
  have HF := Lib.hid hF
  have HC1 := Lib.hid hc1
  have HB1 := Lib.hid hb1
  clear hok hx hF hc1 hb1 hd
  go_wp2_with (fail)
  go_loopw [5] (fun i wr => ∃ k : Nat, i = .int .i64 k ∧ k ≤ xs.length ∧ Below (w1.alloc (.cells #[.bool false, .bool d, .slice A xs.length c] 29)).heap.size (w1.alloc (.cells #[.bool false, .bool d, .slice A xs.length c] 29)) wr) (fun i _ => xs.length - (RowKit.intOf i).toNat)
  case atStart => exact ⟨0, rfl, Nat.zero_le _, Below.refl _ _⟩
  case round =>
    obtain ⟨k, rfl, hk, hbr⟩ := hrel
    have P := alloc_later hbr
    obtain ⟨z0, z1, z2⟩ := three_cells P
    have hlw := lt_of_cells P
    have HBR := Lib.hid hbr
    have HP := Lib.hid P
    have HCR := Lib.hid (HC1.out.below (below_alloc hbr))
    clear hbr P
    by_cases hkl : k < xs.length
    · obtain ⟨x, hx⟩ : ∃ x, xs[k]? = some x := ⟨_, List.getElem?_eq_getElem hkl⟩
      obtain ⟨ad, rfl, hlt, hcell⟩ := HCR.out (by rw [sv_length]; omega)
      have hck := hcell k (.string x) (sv_at hx)
      have hch := Lib.hid (part_check HZ.out HX.out hx)
      have hxs : x.size ≤ 1024 := by
        have h1 := hch.out
        unfold checkE at h1
        split at h1
        · simp at h1
        · split at h1
          · simp at h1
          · split at h1
            · simp at h1
            · rw [size_eq]; omega
      clear hcell hx
      go_wp2_with (fail)
      refine (check_calls x _ (by omega)).mono ?_
      rintro e w2 ⟨rfl, hb2⟩
      rw [hch.out]
      have HB2 := Lib.hid (HBR.out.trans (hb2.mono HBR.out.size))
      clear hb2
      go_wp2_with (fail)
      go_roundw
      case rel => exact ⟨k + 1, by go_num, by omega, HB2.out⟩
      case measure => simp [RowKit.intOf] <;> omega
    · obtain rfl : k = xs.length := by omega
      have hjl : (join (xs.map tl) [47]).length ≤ 1099511627776 := by
        have h1 := (back HZ.out).1
        have h2 := join_le_V (rootB (tl s)) (dirB (tl s)) (ptsL (tl s))
        rw [← size_eq s] at h1
        rw [HX.out]
        omega
      have hne : ((xs.length : Int) == 0) = false := by
        rw [beq_eq_false_iff_ne]
        intro h0
        have h0' : xs = [] := List.eq_nil_of_length_eq_zero (by omega)
        have h1 := HX.out
        rw [h0'] at h1
        have h2 := (no_parts h1.symm (whole_ok (split_ok HZ.out).1).1).1
        rw [HR.out] at h2
        cases h2
      go_wp2_with (fail)
      refine (join_calls false d A xs c _ (fun ad e => by obtain ⟨g, h, _⟩ := HF.out ad e; exact ⟨g, h⟩) HCR.out hle (by omega) hjl).mono ?_
      rintro e w3 ⟨t, rfl, ht, hb3⟩
      obtain ⟨q1, q2, q3, q4, q5⟩ := split_back (s := s) (t := t) HZ.out (by rw [ht, HX.out, HR.out, HD.out])
      have P3 := (hb3.block _ hlw).trans HP.out
      obtain ⟨y0, y1, y2⟩ := three_cells P3
      have hl3 := lt_of_cells P3
      have HP3 := Lib.hid P3
      have HC3 := Lib.hid (HCR.out.below hb3)
      have HB3 := Lib.hid ((HB1.out.trans ((below_alloc HBR.out).mono (by have := HB1.out.size; omega))).trans (hb3.mono (by have h1 := HB1.out.size; have h2 := (below_alloc HBR.out).size; omega)))
      have HT3 := Lib.hid ht
      have Q2 := Lib.hid q2
      have Q3 := Lib.hid q3
      have Q4 := Lib.hid q4
      have Q5 := Lib.hid q5
      have q1' : (t.size : Int) ≤ (s.size : Int) := by omega
      clear ht q2 q3 q4 q5 P3 hb3 z0 z1 z2
      go_wp2_with (fail)
      refine (split_calls t _ (by omega)).mono ?_
      intro e w4 h4
      obtain ⟨ys, A2, c2, hb4, hc4, hle4, hl4, hF4, hok4, _⟩ := h4
      obtain ⟨hy, rfl⟩ := hok4 Q2.out
      obtain rfl : ys = xs := map_tl_inj (hy.trans (Q3.out.trans HX.out.symm))
      unfold pv
      rw [Q4.out, Q5.out, HR.out, HD.out]
      have P4 := (hb4.block _ hl3).trans HP3.out
      obtain ⟨x0, x1, x2⟩ := three_cells P4
      have hl4' := lt_of_cells P4
      have HC4 := Lib.hid (HC3.out.below hb4)
      have HC5 := Lib.hid hc4
      have HB4 := Lib.hid (HB3.out.trans (hb4.mono HB3.out.size))
      have HF4 := Lib.hid hF4
      clear hy hok4 hb4 hc4 hF4 P4 y0 y1 y2
      go_wp2_with (fail)
      refine (same_calls false d A A2 ys c c2 _ (HC4.out.below ((Below.refl _ _).alloc (Nat.le_refl _) _)) (HC5.out.below ((Below.refl _ _).alloc (Nat.le_refl _) _)) (by omega)).mono ?_
      rintro e w5 ⟨rfl, hb5⟩
      have P5 := alloc_later hb5
      obtain ⟨v0, v1, v2⟩ := three_cells P5
      have hl5 := lt_of_cells P5
      have HC6 := Lib.hid ((HC5.out.below ((Below.refl _ _).alloc (Nat.le_refl _) _)).below hb5)
      have HB5 := Lib.hid (HB4.out.trans ((below_alloc hb5).mono HB4.out.size))
      clear hb5 P5 x0 x1 x2
      go_wp2_with (fail)
      refine (join_calls false d A2 ys c2 _ (fun ad e => by obtain ⟨g, h, _⟩ := HF4.out ad e; exact ⟨g, h⟩) HC6.out hle4 (by omega) hjl).mono ?_
      rintro e w6 ⟨t2, rfl, ht2, hb6⟩
      obtain rfl : t2 = t := tl_inj (ht2.trans HT3.out.symm)
      have HB6 := Lib.hid (HB5.out.trans (hb6.mono HB5.out.size))
      clear ht2 hb6 v0 v1 v2
      go_wp2_with (fail)
      refine (alive_calls _ (HT.out.below HB6.out)).mono ?_
      rintro e w7 ⟨rfl, hb7⟩
      have HB7 := Lib.hid (HB6.out.trans (hb7.mono HB6.out.size))
      clear hb7
      go_wp2_with (fail)
      go_ret
      exact ⟨rfl, HB7.out⟩
set_option maxRecDepth 100000 in
set_option maxHeartbeats 4000000 in
theorem back_law (s : ByteArray) (w : World) (hT : TabAt w) :
    Calls Tryd.prog 6 #[.string s] w fun e w' => e = .returned (.bool true) ∧ Below w.heap.size w w' := by
  by_cases hs : s.size ≤ 1024
  · by_cases hz : splitE (tl s) = 0
    · cases hr : rootB (tl s) with
      | true => exact back_t s w hT hs hz hr
      | false => exact back_f s w hT hs hz hr
    · have HT := Lib.hid hT
      have hs' : (s.size : Int) ≤ 1024 := by omega
      obtain ⟨E, hE⟩ : ∃ E, splitE (tl s) = E := ⟨_, rfl⟩
      have hz' : (E != 0) = true := by rw [bne_iff_ne, ← hE]; exact hz
      have HZ := Lib.hid hz
      have HE := Lib.hid hE
      clear hT hz hE
      go_enter Tryd.func6, Tryd.ntmps6
      go_wp2_with (fail)
      refine (split_calls s _ (by omega)).mono ?_
      intro e w1 h1
      obtain ⟨xs, A, c, hb1, hc1, hle, hl, hF, _, hno⟩ := h1
      obtain ⟨rfl, rfl⟩ := hno HZ.out
      unfold pv
      rw [HE.out]
      have HB1 := Lib.hid hb1
      clear hno hF hc1 hb1
      go_wp2_with (fail)
      refine (alive_calls _ (HT.out.below (HB1.out.alloc HB1.out.size _))).mono ?_
      rintro e w2 ⟨rfl, hb2⟩
      have HB2 := Lib.hid (HB1.out.trans ((below_alloc hb2).mono HB1.out.size))
      clear hb2
      go_wp2_with (fail)
      go_ret
      exact ⟨rfl, HB2.out⟩
  · have HT := Lib.hid hT
    clear hT
    have hs' : (1024 : Int) < (s.size : Int) := by omega
    go_enter Tryd.func6, Tryd.ntmps6
    go_wp2_with (fail)
    refine (alive_calls _ HT.out).mono ?_
    rintro e w1 ⟨rfl, hb1⟩
    have HB1 := Lib.hid hb1
    clear hb1
    go_wp2_with (fail)
    go_ret
    exact ⟨rfl, HB1.out⟩
end Go.Proofs.YtganpdplikbppaaDoor
