/- All regions, laid one behind the other. -/
import Derived.Test.YthimikdhdcjneaaGeoRef1
namespace Go.Proofs.Ythimikdhdcjneaa
open Go.RowKit
theorem span_info : (Try.prog.info? 48).map (fun i => (i.zero, i.size, i.bytes)) = some (some (.agg #[.int .u8 0, .int .i64 0, .int .i64 0, .int .i64 0]), 4, 32) := by kernel_rfl
theorem info_parts {P : Program} {t : TypeId} {z : Value} {s b : Nat} (h : (P.info? t).map (fun i => (i.zero, i.size, i.bytes)) = some (some z, s, b)) : ∃ i, P.info? t = some i ∧ i.zero = some z ∧ i.size = s ∧ i.bytes = b := by
  cases hi : P.info? t with
  | none => rw [hi] at h; cases h
  | some i =>
    rw [hi] at h
    injection h with h
    injection h with h1 h
    injection h with h2 h3
    exact ⟨i, rfl, h1, h2, h3⟩
/-- What lies while the regions are laid. -/
structure Acc (w wr : World) (P I B : Int) (v : Value) (L : List Sp) : Prop where
  regs : Regs wr (w.heap.size + 1) v L
  box : Bx wr w.heap.size P I B
  below : Below w.heap.size w wr
theorem cells_span {w0 : World} {g : Nat} (p : Sp) (t : TypeId) (hw : w0.heap[g]? = some (.cells #[.int .u8 (p.k : Nat), .int .i64 (p.n : Nat), .int .i64 0, .int .i64 (p.m : Nat)] t (0, 0))) :
    ∀ j u, (sv [p])[j]? = some u → w0.cell? ((⟨g, 0, none⟩ : Addr).add j) = some u := by
  intro j u hu
  rw [add_zero_block, cell_of_row w0 g j _ t (0, 0) hw, ← hu, List.getElem?_toArray]
  rfl
theorem Acc.step {w wr w1 : World} {P I B : Int} {L : List Sp} {p : Sp} {g g' c c' : Nat} {o : Obj} (h : Acc w wr P I B (.slice (some ⟨g, 0, none⟩) L.length c) L)
    (hown : OwnR w1 48 4 (some ⟨g', 0, none⟩) (L.length + 1) c' (sv L ++ sv [p])) (hgr : (wr.alloc o).grownBy w1 ((some (⟨g, 0, none⟩ : Addr)).map (·.block)))
    (hg : (some (⟨g, 0, none⟩ : Addr)) = some ⟨g', 0, none⟩ ∨ g' = (wr.alloc o).heap.size) : Acc w w1 P I B (.slice (some ⟨g', 0, none⟩) (L.length + 1) c') (L ++ [p]) := by
  obtain ⟨⟨g0, c0, hv, hr, hB⟩, hbox, hbw⟩ := h
  obtain ⟨rfl, rfl⟩ : g = g0 ∧ c = c0 := by
    injection hv with h1 h2 h3
    injection h1 with h1
    injection h1 with h1
    exact ⟨h1, h3⟩
  have hz := hbw.size
  have hl := hbox.lt
  refine ⟨⟨g', c', by rw [List.length_append]; rfl, by rw [List.length_append, sv_append]; exact hown, ?_⟩, ?_, ?_⟩
  · rcases hg with hg | hg
    · injection hg with hg
      injection hg with hg
      omega
    · rw [hg]; simp; omega
  · exact (hgr.block _ (by simp; omega) (by simp; omega)).trans ((Below.heap_alloc _ _ _ hl).trans hbox)
  · exact (hbw.alloc hz o).grown hgr (by simp; omega) (by simp; omega)
set_option maxRecDepth 100000 in
theorem all_calls (P I B : Nat) (w : World) (hP : P ≤ 8) (hI : I ≤ 64) (hB : B ≤ 255) :
    Calls Try.prog 23 #[gv P I B] w fun e w' => ∃ v, e = .returned v ∧ Regs w' w.heap.size v (allL P I B) ∧ Below w.heap.size w w' := by
  obtain ⟨i0, hi0, hz0, hs0, hb0⟩ := info_parts span_info
  have HI := Lib.hid hi0
  have HZ := Lib.hid hz0
  have HS := Lib.hid hs0
  have HB := Lib.hid hb0
  clear hi0 hz0 hs0 hb0
  go_enter Try.func23, Try.ntmps23
  go_wp2
  go_loopw [3, 4] (fun v i wr => ∃ (j : Nat) (L : List Sp), i = .int .i64 (j : Nat) ∧ 1 ≤ j ∧ j ≤ I + 1 ∧ Hid (headL ++ inoL (j - 1) = L) ∧ Acc w wr P I B v L) (fun _ i _ => I + 1 - (intOf i).toNat)
  case atStart =>
    refine ⟨1, headL, rfl, Nat.le_refl _, by omega, rfl, ⟨w.heap.size + 1, 2, rfl, ⟨rfl, by decide, by decide, .inr ⟨_, #[.int .u8 1, .int .i64 0, .int .i64 0, .int .i64 8, .int .u8 2, .int .i64 0, .int .i64 0, .int .i64 8], rfl, ?_, ?_, rfl⟩⟩, Nat.le_refl _⟩, ?_, two_allocs _ _ _⟩
    · have := heap_alloc_new (w.alloc (.cells #[.int .i64 (P : Nat), .int .i64 (I : Nat), .int .i64 (B : Nat)] 23)) (.cells #[.int .u8 1, .int .i64 0, .int .i64 0, .int .i64 8, .int .u8 2, .int .i64 0, .int .i64 0, .int .i64 8] 48)
      rwa [World.size_alloc] at this
    · decide
    · exact (Bx.new w P I B).below ((Below.refl _ _).alloc (Nat.le_refl _) _) (by simp)
  case round =>
    obtain ⟨j, L, rfl, hj1, hj2, hL0, hacc⟩ := hrel
    have hL := hL0.out
    clear hL0
    obtain ⟨b0, b1, b2⟩ := hacc.box.cells
    have hlen : L.length = j + 1 := by rw [← hL]; simp [headL, inoL_length]; omega
    obtain ⟨g, c, rfl, hown, hgB⟩ := hacc.regs
    by_cases hlt : j ≤ I
    · have HO := Lib.hid (fun o => hown.keep (w' := wr.alloc o) fun ad e => Below.heap_alloc _ _ _ (hown.lt ad e))
      have HL := Lib.hid hlen
      have HLE := Lib.hid hL
      clear hown hlen hL
      go_wp2_with (at_builtin; refine wpList_append_r rfl (.tmp 18) (.tmp 22) 45 rfl 48 i0 _ 4 32 Try.underlying45 HI.out HZ.out HS.out HB.out rfl (some ⟨g, 0, none⟩) L.length c (sv L) rfl (HO.out _) ⟨wr.heap.size, 0, none⟩ 1 1 (sv [⟨3, j, 8⟩]) rfl rfl (cells_span ⟨3, j, 8⟩ 48 (heap_alloc_new _ _)) (sv_one _) (by decide) (by have := HL.out; unfold maxLen; omega) (by have := HL.out; omega) ?_; intro g' c2 w1 hown2 hgr hg)
      have hst := hacc.step hown2 hgr hg
      have e : Hid (headL ++ inoL (j + 1 - 1) = L ++ [⟨3, j, 8⟩]) := by
        obtain ⟨q, rfl⟩ : ∃ q, j = q + 1 := ⟨j - 1, by omega⟩
        show headL ++ inoL (q + 1) = _
        rw [inoL_step, ← HLE.out, List.append_assoc]
        rfl
      go_roundw
      case rel => exact ⟨j + 1, _, by go_num, by omega, by omega, e, hst⟩
      case measure => simp [intOf]; omega
    · have HLE : Hid (headL ++ inoL I = L) := by
        rw [show I = j - 1 by omega]
        exact Lib.hid hL
      clear hL hown hlen
      obtain ⟨w5, rfl⟩ : ∃ w5 : World, w5 = wr := ⟨_, rfl⟩
      go_wp2
      go_loopw [3, 5] (fun v i wr => ∃ (j : Nat) (L : List Sp), i = .int .i64 (j : Nat) ∧ j ≤ P ∧ Hid (headL ++ inoL I ++ slotL j = L) ∧ Acc w wr P I B v L) (fun _ i _ => P - (intOf i).toNat)
      case atStart => exact ⟨0, L, rfl, Nat.zero_le _, by have := HLE.out; rw [← this]; simp [slotL, Hid], hacc⟩
      case round =>
        clear hacc b0 b1 b2 HLE
        clear hgB
        obtain ⟨j, L, rfl, hj2, hL0, hacc⟩ := hrel
        have hL := hL0.out
        clear hL0
        obtain ⟨b0, b1, b2⟩ := hacc.box.cells
        have hlen : L.length = 2 + I + j := by rw [← hL]; simp [headL, inoL_length, slotL_length]; omega
        obtain ⟨g, c, rfl, hown, hgB⟩ := hacc.regs
        by_cases hlt : j < P
        · have HO := Lib.hid (fun o => hown.keep (w' := wr.alloc o) fun ad e => Below.heap_alloc _ _ _ (hown.lt ad e))
          have HL := Lib.hid hlen
          have HLE := Lib.hid hL
          clear hown hlen hL
          go_wp2_with (at_builtin; refine wpList_append_r rfl (.tmp 30) (.tmp 34) 45 rfl 48 i0 _ 4 32 Try.underlying45 HI.out HZ.out HS.out HB.out rfl (some ⟨g, 0, none⟩) L.length c (sv L) rfl (HO.out _) ⟨wr.heap.size, 0, none⟩ 1 1 (sv [⟨4, j, 136⟩]) rfl rfl (cells_span ⟨4, j, 136⟩ 48 (heap_alloc_new _ _)) (sv_one _) (by decide) (by have := HL.out; unfold maxLen; omega) (by have := HL.out; omega) ?_; intro g' c2 w1 hown2 hgr hg)
          have hst := hacc.step hown2 hgr hg
          have e : Hid (headL ++ inoL I ++ slotL (j + 1) = L ++ [⟨4, j, 136⟩]) := by
            show headL ++ inoL I ++ slotL (j + 1) = _
            rw [slotL_step, ← HLE.out, List.append_assoc (headL ++ inoL I)]
          go_roundw
          case rel => exact ⟨j + 1, _, by go_num, by omega, e, hst⟩
          case measure => simp [intOf]; omega
        · obtain rfl : j = P := by omega
          have HLE := Lib.hid hL
          clear hL hown hlen
          obtain ⟨w6, rfl⟩ : ∃ w6 : World, w6 = wr := ⟨_, rfl⟩
          go_wp2
          go_loopw [3, 6] (fun v i wr => ∃ (k : Nat) (L : List Sp), i = .int .i64 (k : Nat) ∧ 1 ≤ k ∧ k ≤ B + 1 ∧ Hid (headL ++ inoL I ++ slotL j ++ blkL (k - 1) = L) ∧ Acc w wr j I B v L) (fun _ i _ => B + 1 - (intOf i).toNat)
          case atStart => exact ⟨1, L, rfl, Nat.le_refl _, by omega, by have := HLE.out; rw [← this]; simp [blkL, Hid], hacc⟩
          case round =>
            clear hacc b0 b1 b2 HLE
            clear hgB
            obtain ⟨k, L, rfl, hk1, hk2, hL0, hacc⟩ := hrel
            have hL := hL0.out
            clear hL0
            obtain ⟨b0, b1, b2⟩ := hacc.box.cells
            have hlen : L.length = 2 + I + j + (k - 1) := by rw [← hL]; simp [headL, inoL_length, slotL_length, blkL_length]; omega
            obtain ⟨g, c, rfl, hown, hgB⟩ := hacc.regs
            by_cases hlt : k ≤ B
            · have HO := Lib.hid (fun o => hown.keep (w' := wr.alloc o) fun ad e => Below.heap_alloc _ _ _ (hown.lt ad e))
              have HL := Lib.hid hlen
              have HLE := Lib.hid hL
              clear hown hlen hL
              go_wp2_with (at_builtin; refine wpList_append_r rfl (.tmp 42) (.tmp 46) 45 rfl 48 i0 _ 4 32 Try.underlying45 HI.out HZ.out HS.out HB.out rfl (some ⟨g, 0, none⟩) L.length c (sv L) rfl (HO.out _) ⟨wr.heap.size, 0, none⟩ 1 1 (sv [⟨5, k, 32⟩]) rfl rfl (cells_span ⟨5, k, 32⟩ 48 (heap_alloc_new _ _)) (sv_one _) (by decide) (by have := HL.out; unfold maxLen; omega) (by have := HL.out; omega) ?_; intro g' c2 w1 hown2 hgr hg)
              have hst := hacc.step hown2 hgr hg
              have e : Hid (headL ++ inoL I ++ slotL j ++ blkL (k + 1 - 1) = L ++ [⟨5, k, 32⟩]) := by
                obtain ⟨q, rfl⟩ : ∃ q, k = q + 1 := ⟨k - 1, by omega⟩
                show headL ++ inoL I ++ slotL j ++ blkL (q + 1) = _
                rw [blkL_step, ← HLE.out, List.append_assoc (headL ++ inoL I ++ slotL j)]
                rfl
              go_roundw
              case rel => exact ⟨k + 1, _, by go_num, by omega, by omega, e, hst⟩
              case measure => simp [intOf]; omega
            · have HLE : Hid (headL ++ inoL I ++ slotL j ++ blkL B = L) := by
                rw [show B = k - 1 by omega]
                exact Lib.hid hL
              clear hL
              go_wp2
              go_ret
              refine ⟨_, rfl, ⟨g, c, ?_, ?_, by omega⟩, hacc.below⟩
              · rw [show allL j I B = L from HLE.out]
                rfl
              · rw [show allL j I B = L from HLE.out]
                exact hown
end Go.Proofs.Ythimikdhdcjneaa
