/- The document's Split. -/
import Derived.Test.YtganpdplikbppaaDoorNm7
import Derived.Test.YtganpdplikbppaaDoorNm9
set_option linter.unusedSimpArgs false
set_option linter.unusedVariables false
namespace Go.Proofs.YtganpdplikbppaaDoor
open Go.RowKit Go.Lib

theorem byte47 (b : UInt8) : ((b.toNat : Int) == 47) = decide (b = 47) := by
  by_cases h : b = 47
  · subst h; rfl
  · rw [decide_eq_false h, beq_eq_false_iff_ne]
    intro e
    exact h (UInt8.toNat_inj.1 (show b.toNat = (47 : UInt8).toNat by show b.toNat = 47; omega))
theorem last_byte {s : ByteArray} {n : Nat} (h : s.size = n + 1) : lastB (tl s) = ((s[n].toNat : Int) == 47) := by
  have hl : (tl s).length = n + 1 := by rw [← size_eq, h]
  have hd := data_getElem? s n (by omega)
  rw [byte47]
  obtain ⟨c, x, e⟩ : ∃ c x, tl s = c ++ [x] := ⟨(tl s).dropLast, (tl s).getLast (fun e => by rw [e] at hl; simp at hl), (List.dropLast_concat_getLast _).symm⟩
  have hc : c.length = n := by rw [e, List.length_append] at hl; simpa using hl
  rw [show s.data.toList = _ from e] at hd
  subst hc
  rw [List.getElem?_concat_length] at hd
  rw [e, lastB_snoc, Option.some.inj hd]
theorem first_byte {s : ByteArray} (h : 0 < s.size) : rootB (tl s) = ((s[0].toNat : Int) == 47) := by
  have hl : (tl s)[0]? = some s[0] := data_getElem? s 0 h
  rw [byte47]
  cases hs : tl s with
  | nil => rw [hs] at hl; simp at hl
  | cons b l =>
    rw [hs] at hl
    have hb : b = s[0] := by simpa using hl
    rw [rootB_cons, hb]
theorem long_take {xs : List ByteArray} {k : Nat} {x : ByteArray} (hx : xs[k]? = some x) : tooLong (xs.take (k + 1)) = (tooLong (xs.take k) || decide (16 < x.size)) := by
  rw [List.take_add_one, hx]
  exact long_snoc _ _
theorem long_any {xs : List ByteArray} {k : Nat} {x : ByteArray} (hx : xs[k]? = some x) (h : 16 < x.size) : tooLong xs = true := by
  unfold tooLong longL
  refine List.any_eq_true.2 ⟨tl x, List.mem_map.2 ⟨x, List.mem_of_getElem? hx, rfl⟩, ?_⟩
  rw [← size_eq]; exact decide_eq_true h
set_option maxRecDepth 100000 in
set_option maxHeartbeats 8000000 in
theorem rsplit_calls (s : ByteArray) (w : World) (hs : s.size ≤ 1099511627776) :
    Calls Tryd.prog 16 #[.string s] w (Splits s w) := by
  cases he : s.toList.isEmpty with
  | true =>
    have hE : splitE (tl s) = 602 := by
      have := whole_empty he
      unfold splitE; rw [this]; rfl
    have HE := Lib.hid hE
    clear hE
    go_enter Tryd.func16, Tryd.ntmps16
    go_wp2_with (fail)
    refine bodyPost_ret (results_row_tmp rfl _ _ w.heap.size #[.bool false, .bool false, .slice none 0 0] (.int .i64 602) rfl rfl (run_loadVar_row (P := Tryd.prog) _ w.heap.size 29 29 _ (0, 0) _ (heap_alloc_new w _) Tryd.underlying29 rfl (by kernel_rfl))) rfl ⟨[], none, 0, (Below.refl _ w).alloc (Nat.le_refl _) _, Cel.nil _ _, Nat.le_refl _, by decide, Fresh.none, fun h => absurd h (by rw [HE.out]; decide), fun _ => ⟨rfl, by rw [HE.out]; rfl⟩⟩
  | false =>
  by_cases hl : 64 < (s.size : Int)
  · have hE : splitE (tl s) = 636 := by
      have := whole_long he hl
      unfold splitE; rw [this]; rfl
    have HE := Lib.hid hE
    clear hE
    go_enter Tryd.func16, Tryd.ntmps16
    go_wp2_with (fail)
    refine bodyPost_ret (results_row_tmp rfl _ _ w.heap.size #[.bool false, .bool false, .slice none 0 0] (.int .i64 636) rfl rfl (run_loadVar_row (P := Tryd.prog) _ w.heap.size 29 29 _ (0, 0) _ (heap_alloc_new w _) Tryd.underlying29 rfl (by kernel_rfl))) rfl ⟨[], none, 0, (Below.refl _ w).alloc (Nat.le_refl _) _, Cel.nil _ _, Nat.le_refl _, by decide, Fresh.none, fun h => absurd h (by rw [HE.out]; decide), fun _ => ⟨rfl, by rw [HE.out]; rfl⟩⟩
  have hl' : (s.size : Int) ≤ 64 := by omega
  cases h0 : hasC (tl s) 0 with
  | true =>
    have hE : splitE (tl s) = 622 := by
      have hp : 0 ≤ indexByte s.data.toList 0 := of_decide_eq_true ((index_pos _ _).trans h0)
      have := whole_zero he hl' hp
      unfold splitE; rw [this]; rfl
    have HE := Lib.hid hE
    clear hE
    go_enter Tryd.func16, Tryd.ntmps16
    go_wp2_with (go_at_call 21; refine (has_lit s _ _ (by omega) (by omega) hs).mono ?_; rintro e w' ⟨rfl, hx⟩; rw [hx, show hasC (tl s) (Int.toNat 0).toUInt8 = true from h0])
    refine bodyPost_ret (results_row_tmp rfl _ _ w.heap.size #[.bool false, .bool false, .slice none 0 0] (.int .i64 622) rfl rfl (run_loadVar_row (P := Tryd.prog) _ w.heap.size 29 29 _ (0, 0) _ (heap_alloc_new w _) Tryd.underlying29 rfl (by kernel_rfl))) rfl ⟨[], none, 0, (Below.refl _ w).alloc (Nat.le_refl _) _, Cel.nil _ _, Nat.le_refl _, by decide, Fresh.none, fun h => absurd h (by rw [HE.out]; decide), fun _ => ⟨rfl, by rw [HE.out]; rfl⟩⟩
  | false =>
    have hw0 : wholeE (tl s) = 0 := by
      have hp : ¬ 0 ≤ indexByte s.data.toList 0 := of_decide_eq_false ((index_pos _ _).trans h0)
      exact whole_fine he hl' (by omega)
    obtain ⟨n, hn⟩ : ∃ n, s.size = n + 1 := ⟨s.size - 1, by
      have : s.size ≠ 0 := fun e => not_empty he (List.eq_nil_of_length_eq_zero (by rw [← size_eq]; exact e))
      omega⟩
    have HE0 := Lib.hid hw0
    clear hw0
    go_enter Tryd.func16, Tryd.ntmps16
    go_wp2_with (first
      | (go_at_call 21; refine (has_lit s _ _ (by omega) (by omega) hs).mono ?_; rintro e w' ⟨rfl, hx⟩; rw [hx, show hasC (tl s) (Int.toNat 0).toUInt8 = false from h0])
      | (go_at_call 29; refine (rparts_calls s _ hs).mono ?_; rintro e w2 ⟨xs, v, rfl, hx, hown0, hb⟩; obtain ⟨Ad, c, rfl, hown, hge⟩ := OwnR.of_own hown0))
    have hzz : Zp w.heap.size w2 := (hb.block _ (by rw [World.size_alloc]; omega)).trans (heap_alloc_new w _)
    have hB0 : Below w.heap.size w w2 := ((Below.refl _ w).alloc (Nat.le_refl _) _).trans (hb.mono (by rw [World.size_alloc]; omega))
    have hlen : xs.length ≤ 65 := by
      have h1 := congrArg List.length hx
      have h2 := ptsL_length (tl s)
      rw [List.length_map] at h1
      rw [← size_eq] at h2
      omega
    have hle := hown.2.1
    have hcel := hown.cel
    have HZ := Lib.hid hzz
    have HB := Lib.hid hB0
    have HB2 := Lib.hid hb
    have HC := Lib.hid hcel
    have HX := Lib.hid hx
    have HN := Lib.hid hlen
    have HL := Lib.hid hle
    have HG := Lib.hid hge
    have HF := Lib.hid ((fresh_own hown hge).mono (show w.heap.size ≤ (w.alloc (.cells #[.bool false, .bool false, .slice none 0 0] 29)).heap.size by rw [World.size_alloc]; omega))
    clear hzz hb hx hcel hown hown0 hB0 hle hge
    go_loop [5] (fun i => ∃ k : Nat, i = .int .i64 k ∧ k ≤ xs.length ∧ tooLong (xs.take k) = false) (fun i => xs.length - (RowKit.intOf i).toNat)
    case atStart => exact ⟨0, rfl, Nat.zero_le _, rfl⟩
    case round =>
      obtain ⟨k, rfl, hk, hno⟩ := hrel
      have HO := Lib.hid hno
      clear hno
      by_cases hkl : k < xs.length
      · obtain ⟨x, hx⟩ : ∃ x, xs[k]? = some x := ⟨_, List.getElem?_eq_getElem hkl⟩
        obtain ⟨ad, rfl, hlt, hcell⟩ := HC.out (by rw [sv_length]; omega)
        have hck := hcell k (.string x) (sv_at hx)
        have Hx := Lib.hid hx
        clear hcell hx
        by_cases hbig : 16 < (x.size : Int)
        · have hE : splitE (tl s) = 636 := by
            unfold splitE
            rw [if_pos HE0.out, ← HX.out, if_pos (show longL (xs.map tl) = true from long_any Hx.out (by omega))]
          have HE := Lib.hid hE
          clear hE
          have z := HZ.out
          obtain ⟨z0, z1, z2⟩ := three_cells z
          have zf : ∀ k, w2.frozen? ⟨w.heap.size, k, none⟩ = false := fun k => by simp [World.frozen?, show w2.heap[w.heap.size]? = _ from HZ.out]
          have f0 := zf 0
          have f1 := zf 1
          have f2 := zf 2
          clear zf z
          go_wp2_with (fail)
          rw [set_same HZ.out rfl, set_same HZ.out rfl, set_same HZ.out rfl]
          refine bodyPost_ret (results_row_tmp rfl _ _ w.heap.size #[.bool false, .bool false, .slice none 0 0] (.int .i64 636) rfl rfl (run_loadVar_row (P := Tryd.prog) _ w.heap.size 29 29 _ (0, 0) _ HZ.out Tryd.underlying29 rfl (by kernel_rfl))) rfl ⟨[], none, 0, HB.out, Cel.nil _ _, Nat.le_refl _, by decide, Fresh.none, fun h => absurd h (by rw [HE.out]; decide), fun _ => ⟨rfl, by rw [HE.out]; rfl⟩⟩
        · go_wp2_with (fail)
          go_round
          case rel => exact ⟨k + 1, by go_num, by omega, by rw [long_take Hx.out, HO.out, decide_eq_false (by omega)]; rfl⟩
          case measure => simp [RowKit.intOf] <;> omega
      · obtain rfl : k = xs.length := by omega
        have hE : splitE (tl s) = 0 := by
          unfold splitE
          rw [if_pos HE0.out, ← HX.out, show longL (xs.map tl) = false by have := HO.out; rw [List.take_length] at this; exact this]; rfl
        have HE := Lib.hid hE
        clear hE
        obtain ⟨z0, z1, z2⟩ := three_cells HZ.out
        have zf : ∀ k, w2.frozen? ⟨w.heap.size, k, none⟩ = false := fun k => by simp [World.frozen?, show w2.heap[w.heap.size]? = _ from HZ.out]
        have f0 := zf 0
        have f1 := zf 1
        have f2 := zf 2
        clear zf
        have t0 := first_byte (s := s) (by omega)
        have tn := last_byte hn
        obtain ⟨b0, hb0⟩ : ∃ b, s[0] = b := ⟨_, rfl⟩
        obtain ⟨bn, hbn⟩ : ∃ b, s[n] = b := ⟨_, rfl⟩
        rw [hb0] at t0
        rw [hbn] at tn
        rcases List.eq_nil_or_concat xs with hxs | ⟨zs, d, hxs⟩
        · subst hxs
          cases hLb : lastB (tl s) with
          | true =>
            rw [hLb] at tn
            replace tn := tn.symm
            have HT := Lib.hid t0
            clear t0
            go_wp2_with (fail)
            obtain ⟨B, hB⟩ : ∃ B, ((w2.setCell ⟨w.heap.size, 0, none⟩ (.bool ((b0.toNat : Int) == 47))).setCell ⟨w.heap.size, 1, none⟩ (.bool true)).setCell ⟨w.heap.size, 2, none⟩ (.slice Ad 0 c) = B := ⟨_, rfl⟩
            rw [hB]
            have hl1 : B.heap[w.heap.size]? = some (.cells #[.bool ((b0.toNat : Int) == 47), .bool true, .slice Ad 0 c] 29 (0, 0)) := by rw [← hB]; exact set_at 2 _ (set_at 1 _ (set_at 0 _ HZ.out))
            have ho : Only (fun k => k = w.heap.size) w2 B := by
              rw [← hB]
              exact ((only_set _ _ _ _).trans (only_set _ _ _ _) (fun _ h => .inl h)).trans (only_set _ _ _ _) (fun _ h => .inl h)
            refine bodyPost_ret (results_row_tmp rfl _ _ w.heap.size #[.bool ((b0.toNat : Int) == 47), .bool true, .slice Ad 0 c] (.int .i64 0) rfl rfl (run_loadVar_row (P := Tryd.prog) _ w.heap.size 29 29 _ (0, 0) _ hl1 Tryd.underlying29 rfl (by kernel_rfl))) rfl
              ⟨[], Ad, c, HB.out.trans (ho.below (Nat.le_trans (by rw [World.size_alloc]; omega) HB2.out.size) (fun i hi => by omega)), HC.out.only ho (fun ad e _ => by have := HG.out ad e; rw [World.size_alloc] at this; omega), HL.out, by have := HN.out; simp only [List.length_append, List.length_singleton, List.length_nil] at this ⊢; omega, HF.out,
                fun _ => ⟨HX.out, by rw [show dirB (tl s) = true from by unfold dirB; rw [hLb]; rfl, HT.out]; rfl⟩, fun h => absurd HE.out h⟩
          | false =>
            rw [hLb] at tn
            replace tn := tn.symm
            have HT := Lib.hid t0
            clear t0
            exact absurd (no_parts HX.out.symm (not_empty he)).2 (by rw [hLb]; simp)
        · rw [List.concat_eq_append] at hxs
          subst hxs
          have he2 := ends_snoc zs d
          obtain ⟨ad, rfl, hlt, hcell⟩ := HC.out (by rw [sv_length]; simp)
          have hcd := hcell zs.length (.string d) (sv_at (by simp))
          clear hcell
          have hlz : (zs ++ [d]).length = zs.length + 1 := by simp
          have hz0 : ((zs.length : Int) + 1 == 0) = false := by rw [beq_eq_false_iff_ne]; omega
          cases hLb : lastB (tl s) with
          | true =>
            rw [hLb] at tn
            replace tn := tn.symm
            have HT := Lib.hid t0
            clear t0
            go_wp2_with (fail)
            obtain ⟨B, hB⟩ : ∃ B, ((w2.setCell ⟨w.heap.size, 0, none⟩ (.bool ((b0.toNat : Int) == 47))).setCell ⟨w.heap.size, 1, none⟩ (.bool true)).setCell ⟨w.heap.size, 2, none⟩ (.slice (some ad) (zs.length + 1) c) = B := ⟨_, rfl⟩
            rw [hB]
            have hl1 : B.heap[w.heap.size]? = some (.cells #[.bool ((b0.toNat : Int) == 47), .bool true, .slice (some ad) (zs.length + 1) c] 29 (0, 0)) := by rw [← hB]; exact set_at 2 _ (set_at 1 _ (set_at 0 _ HZ.out))
            have ho : Only (fun k => k = w.heap.size) w2 B := by
              rw [← hB]
              exact ((only_set _ _ _ _).trans (only_set _ _ _ _) (fun _ h => .inl h)).trans (only_set _ _ _ _) (fun _ h => .inl h)
            refine bodyPost_ret (results_row_tmp rfl _ _ w.heap.size #[.bool ((b0.toNat : Int) == 47), .bool true, .slice (some ad) (zs.length + 1) c] (.int .i64 0) rfl rfl (run_loadVar_row (P := Tryd.prog) _ w.heap.size 29 29 _ (0, 0) _ hl1 Tryd.underlying29 rfl (by kernel_rfl))) rfl
              ⟨(zs ++ [d]), (some ad), c, HB.out.trans (ho.below (Nat.le_trans (by rw [World.size_alloc]; omega) HB2.out.size) (fun i hi => by omega)), HC.out.only ho (fun ad e _ => by have := HG.out ad e; rw [World.size_alloc] at this; omega), HL.out, by have := HN.out; simp only [List.length_append, List.length_singleton, List.length_nil] at this ⊢; omega, HF.out,
                fun _ => ⟨HX.out, by rw [show dirB (tl s) = true from by unfold dirB; rw [hLb]; rfl, HT.out, hlz]; rfl⟩, fun h => absurd HE.out h⟩
          | false =>
            rw [hLb] at tn
            replace tn := tn.symm
            have HT := Lib.hid t0
            clear t0
            go_wp2_with (go_at_call 12; refine (rdots_calls _ _).mono ?_; rintro e w' ⟨rfl, hx⟩; rw [hx])
            obtain ⟨B, hB⟩ : ∃ B, ((w2.setCell ⟨w.heap.size, 0, none⟩ (.bool ((b0.toNat : Int) == 47))).setCell ⟨w.heap.size, 1, none⟩ (.bool (dotsB d.data.toList))).setCell ⟨w.heap.size, 2, none⟩ (.slice (some ad) (zs.length + 1) c) = B := ⟨_, rfl⟩
            rw [hB]
            have hl1 : B.heap[w.heap.size]? = some (.cells #[.bool ((b0.toNat : Int) == 47), .bool (dotsB d.data.toList), .slice (some ad) (zs.length + 1) c] 29 (0, 0)) := by rw [← hB]; exact set_at 2 _ (set_at 1 _ (set_at 0 _ HZ.out))
            have ho : Only (fun k => k = w.heap.size) w2 B := by
              rw [← hB]
              exact ((only_set _ _ _ _).trans (only_set _ _ _ _) (fun _ h => .inl h)).trans (only_set _ _ _ _) (fun _ h => .inl h)
            refine bodyPost_ret (results_row_tmp rfl _ _ w.heap.size #[.bool ((b0.toNat : Int) == 47), .bool (dotsB d.data.toList), .slice (some ad) (zs.length + 1) c] (.int .i64 0) rfl rfl (run_loadVar_row (P := Tryd.prog) _ w.heap.size 29 29 _ (0, 0) _ hl1 Tryd.underlying29 rfl (by kernel_rfl))) rfl
              ⟨(zs ++ [d]), (some ad), c, HB.out.trans (ho.below (Nat.le_trans (by rw [World.size_alloc]; omega) HB2.out.size) (fun i hi => by omega)), HC.out.only ho (fun ad e _ => by have := HG.out ad e; rw [World.size_alloc] at this; omega), HL.out, by have := HN.out; simp only [List.length_append, List.length_singleton, List.length_nil] at this ⊢; omega, HF.out,
                fun _ => ⟨HX.out, by rw [show dirB (tl s) = (dotsB d.data.toList) from by unfold dirB; rw [hLb, Bool.false_or, ← HX.out, he2], HT.out, hlz]; rfl⟩, fun h => absurd HE.out h⟩
end Go.Proofs.YtganpdplikbppaaDoor
