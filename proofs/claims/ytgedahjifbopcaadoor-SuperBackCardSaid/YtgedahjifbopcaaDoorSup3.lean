/- What specified hands back. -/
import Derived.Test.YtgedahjifbopcaaDoorSup2
namespace Go.Proofs.YtgedahjifbopcaaDoor
open Go.RowKit SumMath WordMath
/-- Number j, where the first k are known. -/
def numTo (f k j : Nat) : Nat := if j < k then numW (fP f) (fI f) (fB f) (fH f) j else 0
def hB (f : Nat) : Bool := decide (fH f = 1)
theorem hB_eq (f : Nat) : ((fH f : Int) == 1) = hB f := by
  unfold hB
  by_cases h : fH f = 1
  · rw [h]; rfl
  · rw [decide_eq_false h, beq_eq_false_iff_ne]; omega
theorem hN_hB (f : Nat) : hN (hB f) = fH f := by
  have : fH f < 2 := Nat.mod_lt _ (by decide)
  unfold hN hB
  by_cases h : fH f = 1
  · rw [decide_eq_true h, h]; rfl
  · rw [decide_eq_false h]; simp; omega
theorem getk_calls {f k : Nat} (hf : f < 18446744073709551616) (hk : k < 4) (w : World) :
    Calls Tryd.prog 40 #[.int .u64 (f : Nat), .int .i64 (atW k : Nat), .int .i64 (wdW k : Nat)] w fun e w' => e = .returned (.tuple #[.int .u64 (numW (fP f) (fI f) (fB f) (fH f) k : Nat), .int .i64 0]) ∧ w = w' := by
  have ha : atW k ≤ 48 := by unfold atW; omega
  have hd : 1 ≤ wdW k ∧ wdW k ≤ 64 - atW k := by
    rcases (by omega : k = 0 ∨ k = 1 ∨ k = 2 ∨ k = 3) with rfl | rfl | rfl | rfl <;> decide
  have hp : isFld (atW k : Nat) (wdW k : Nat) := ⟨by omega, by omega, by omega⟩
  have h := get_calls (f : Nat) (atW k : Nat) (wdW k : Nat) w (by omega) (by omega) (by omega)
  rw [getV_yes hp, getE_yes hp] at h
  simp only [Int.toNat_natCast] at h
  rw [fld_num f k hk] at h
  exact h
/-- What lies while the numbers are found. -/
structure Spc (w wr : World) (f k : Nat) : Prop where
  geom : wr.heap[w.heap.size]? = some (.cells #[.int .i64 (numTo f k 0 : Nat), .int .i64 (numTo f k 1 : Nat), .int .i64 (numTo f k 2 : Nat)] 23)
  mark : wr.heap[w.heap.size + 1]? = some (.cells #[.int .i64 (numTo f k 3 : Nat)] 3)
  under : Below w.heap.size w wr
theorem Spc.later {w wr w' : World} {f k : Nat} (h : Spc w wr f k) (hb : Below wr.heap.size wr w') : Spc w w' f k :=
  ⟨(hb.block _ (lt_of_cells h.geom)).trans h.geom, (hb.block _ (lt_of_cells h.mark)).trans h.mark, h.under.trans (hb.mono h.under.size)⟩
theorem num_small (f k : Nat) : numW (fP f) (fI f) (fB f) (fH f) k < 65536 := by
  obtain ⟨h1, h2, h3, h4⟩ := f_fits f
  unfold numW
  split
  · exact h1
  · split
    · exact h2
    · split <;> omega
theorem spc_zero (w : World) (f : Nat) : Spc w ((w.alloc (.cells #[.int .i64 0, .int .i64 0, .int .i64 0] 23)).alloc (.cells #[.int .i64 0] 3)) f 0 := by
  refine ⟨(Below.heap_alloc _ _ _ (by simp)).trans (heap_alloc_new w _), ?_, ((Below.refl _ _).alloc (Nat.le_refl _) _).alloc (by simp) _⟩
  have := heap_alloc_new (w.alloc (.cells #[.int .i64 0, .int .i64 0, .int .i64 0] 23)) (.cells #[.int .i64 0] 3)
  rwa [World.size_alloc] at this
theorem three_set0 {w0 : World} {B : Nat} {x y z : Value} {t : TypeId} (hw : w0.heap[B]? = some (.cells #[x, y, z] t (0, 0))) (v : Value) : (w0.setCell ⟨B, 0, none⟩ v).heap[B]? = some (.cells #[v, y, z] t (0, 0)) := by
  simp [World.setCell, Array.getElem?_modify, hw]
theorem three_set1 {w0 : World} {B : Nat} {x y z : Value} {t : TypeId} (hw : w0.heap[B]? = some (.cells #[x, y, z] t (0, 0))) (v : Value) : (w0.setCell ⟨B, 1, none⟩ v).heap[B]? = some (.cells #[x, v, z] t (0, 0)) := by
  simp [World.setCell, Array.getElem?_modify, hw]
theorem three_set2 {w0 : World} {B : Nat} {x y z : Value} {t : TypeId} (hw : w0.heap[B]? = some (.cells #[x, y, z] t (0, 0))) (v : Value) : (w0.setCell ⟨B, 2, none⟩ v).heap[B]? = some (.cells #[x, y, v] t (0, 0)) := by
  simp [World.setCell, Array.getElem?_modify, hw]
theorem Spc.put {w wr : World} {f k : Nat} (h : Spc w wr f k) (hk : k < 4) : Spc w (wr.setCell (ptrW w.heap.size (w.heap.size + 1) k) (.int .i64 (numW (fP f) (fI f) (fB f) (fH f) k : Nat))) f (k + 1) := by
  rcases (by omega : k = 0 ∨ k = 1 ∨ k = 2 ∨ k = 3) with rfl | rfl | rfl | rfl
  · exact ⟨three_set0 h.geom _, (heap_set_other (by simp [ptrW])).trans h.mark, h.under.setCell (by simp [ptrW]) _⟩
  · exact ⟨three_set1 h.geom _, (heap_set_other (by simp [ptrW])).trans h.mark, h.under.setCell (by simp [ptrW]) _⟩
  · exact ⟨three_set2 h.geom _, (heap_set_other (by simp [ptrW])).trans h.mark, h.under.setCell (by simp [ptrW]) _⟩
  · exact ⟨(heap_set_other (by simp [ptrW])).trans h.geom, one_set h.mark _, h.under.setCell (by simp [ptrW]) _⟩
theorem Spc.cell {w wr : World} {f k : Nat} (h : Spc w wr f k) (hk : k < 4) : wr.cell? (ptrW w.heap.size (w.heap.size + 1) k) = some (.int .i64 (numTo f k k : Nat)) ∧ wr.frozen? (ptrW w.heap.size (w.heap.size + 1) k) = false ∧ (ptrW w.heap.size (w.heap.size + 1) k).block < wr.heap.size := by
  obtain ⟨g0, g1, g2⟩ := three_cells h.geom
  have m0 := one_cell h.mark
  have l0 := lt_of_cells h.geom
  have l1 := lt_of_cells h.mark
  rcases (by omega : k = 0 ∨ k = 1 ∨ k = 2 ∨ k = 3) with rfl | rfl | rfl | rfl
  · exact ⟨g0, one_frozen h.geom 0, l0⟩
  · exact ⟨g1, one_frozen h.geom 1, l0⟩
  · exact ⟨g2, one_frozen h.geom 2, l0⟩
  · exact ⟨m0, one_frozen h.mark 0, l1⟩
set_option maxRecDepth 100000 in
set_option maxHeartbeats 1000000 in
theorem specified_calls (f : Nat) (w : World) (hf : f < 18446744073709551616) :
    Calls Tryd.prog 23 #[.int .u64 (f : Nat)] w fun e w' => e = .returned (.tuple #[gv (fP f : Nat) (fI f : Nat) (fB f : Nat), .bool (hB f)]) ∧ Below w.heap.size w w' := by
  have H0 := Lib.hid (spc_zero w f)
  go_enter Tryd.func23, Tryd.ntmps23
  go_wp2_with (fail)
  refine (places_calls w.heap.size (w.heap.size + 1) _).mono ?_
  rintro e w5 ⟨g, c, rfl, hcel, hg, hgl, hb5⟩
  have hC5 : Spc w w5 f 0 := Spc.later H0.out hb5
  simp at hg
  clear H0 hb5
  go_wp2_with (fail)
  go_loopw [11] (fun i wr => ∃ k : Nat, i = .int .i64 k ∧ k ≤ 4 ∧ Spc w wr f k ∧ Cel wr (some ⟨g, 0, none⟩) (plc w.heap.size (w.heap.size + 1)) ∧ g < wr.heap.size) (fun i _ => 4 - (intOf i).toNat)
  case atStart => exact ⟨0, rfl, by decide, hC5, hcel, hgl⟩
  case round =>
    obtain ⟨k, rfl, hk, hC, hcel, hgl⟩ := hrel
    by_cases hk4 : k < 4
    · obtain ⟨c0, c1, c2⟩ := hcel.place k hk4
      have hW := hC.later (On.alloc wr (.cells #[.int .i64 (atW k : Nat), .int .i64 (wdW k : Nat), .pointer (some (ptrW w.heap.size (w.heap.size + 1) k))] 66))
      obtain ⟨q0, q1, q2⟩ := hC.cell hk4
      have hn := Lib.hid (hW.put hk4)
      have hcn := Lib.hid ((hcel.below (On.alloc wr (.cells #[.int .i64 (atW k : Nat), .int .i64 (wdW k : Nat), .pointer (some (ptrW w.heap.size (w.heap.size + 1) k))] 66))))
      have q3 := (hW.cell hk4).2.1
      have hns := num_small f k
      have hpb : (ptrW w.heap.size (w.heap.size + 1) k).block ≤ w.heap.size + 1 := by unfold ptrW; split <;> simp
      generalize hp : ptrW w.heap.size (w.heap.size + 1) k = p at *
      have hp := Lib.hid hp
      go_wp2_with (fail)
      refine (getk_calls hf hk4 _).mono ?_
      rintro e w6 ⟨rfl, rfl⟩
      go_wp2_with (fail)
      go_roundw
      case rel =>
        refine ⟨k + 1, by go_num, by omega, hn.out, hcn.out.only (Only.setCell (F := fun i => i = p.block) (Only.refl _ _) (.inl rfl) _) (by intro ad e _; injection e with e; subst e; show ¬ g = _; omega), ?_⟩
        simp [World.setCell]
        omega
      case measure => simp [intOf]; omega
    · obtain rfl : k = 4 := by omega
      obtain ⟨g0, g1, g2⟩ := three_cells hC.geom
      have m0 := one_cell hC.mark
      have f0 := one_frozen hC.geom 0
      have f1 := one_frozen hC.geom 1
      have f2 := one_frozen hC.geom 2
      have l0 := lt_of_cells hC.geom
      have l1 := lt_of_cells hC.mark
      have kb := Lib.hid (hB_eq f)
      have hb := hC.under
      have e0 : numTo f 4 0 = fP f := rfl
      have e1 : numTo f 4 1 = fI f := rfl
      have e2 : numTo f 4 2 = fB f := rfl
      have e3 : numTo f 4 3 = fH f := rfl
      rw [e0] at g0
      rw [e1] at g1
      rw [e2] at g2
      rw [e3] at m0
      clear e0 e1 e2 e3 hC hC5 hcel
      go_wp2_with (fail)
      rw [kb.out]
      exact bodyPost_ret (v := .tuple #[gv (fP f : Nat) (fI f : Nat) (fB f : Nat), .bool (hB f)]) (by simp [results, Tryd.results23, go_sem, g0, g1, g2]) rfl ⟨rfl, ((hb.setCell (Nat.le_refl _) _).setCell (Nat.le_refl _) _).setCell (Nat.le_refl _) _⟩
end Go.Proofs.YtgedahjifbopcaaDoor
