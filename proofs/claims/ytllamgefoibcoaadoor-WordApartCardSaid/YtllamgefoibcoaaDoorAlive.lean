/- 'alive' hands back true: the answers that it asks are as the document fixes them. -/
import Derived.Test.YtllamgefoibcoaaDoorRefText
namespace Go.Proofs.YtllamgefoibcoaaDoor
open Go.RowKit WordMath
theorem TabAt.below {w w' : World} (h : TabAt w) (hb : Below w.heap.size w w') : TabAt w' := fun j hj => by
  have h1 := h j hj
  rw [← h1]
  refine hb.cell (p := ⟨0, j, none⟩) ?_
  rcases Nat.lt_or_ge 0 w.heap.size with h2 | h2
  · exact h2
  · exfalso
    have h0 : w.heap.size = 0 := by omega
    have : w.heap[0]? = none := by rw [Array.getElem?_eq_none (by omega)]
    simp [World.cell?, this] at h1
theorem TabAt.drewN {w : World} (h : TabAt w) (n : Nat) : TabAt (w.drewN n) := h
def aText : ByteArray := { data := #[97, 98, 99, 100, 101, 102, 103, 104, 105] }
theorem v1 : getV 2748 4 8 = 171 ∧ getE 4 8 = 0 ∧ putV 2748 4 4 7 = 2684 ∧ putE 4 4 7 = 0 ∧ putV 0 0 2 4 = 0 ∧ putE 0 2 4 = 2 := by decide +kernel
theorem v2 : lowV [7, 0] 100 = 3 ∧ lowB [7, 0] 100 = true ∧ cntV [7] 2 = 2 := by decide +kernel
theorem v3 : packL aText.data.toList = [7523094288207667809, 105] := by decide +kernel
theorem wd_small {l : List Nat} (h : l.all (fun x => decide (x < 18446744073709551616)) = true) : Wd l := fun k => by
  rw [List.all_eq_true] at h
  rw [List.getD_eq_getElem?_getD]
  rcases Nat.lt_or_ge k l.length with hk | hk
  · rw [List.getElem?_eq_getElem hk]
    simpa using h _ (List.getElem_mem hk)
  · rw [List.getElem?_eq_none hk]; decide
theorem alive_calls (w : World) (hT : TabAt w) : Calls Tryd.prog 12 #[] w fun e w' => e = .returned (.bool true) ∧ Below w.heap.size w w' := by
  have HT := Lib.hid hT
  clear hT
  go_enter Tryd.func12, Tryd.ntmps12
  go_wp2_with (fail)
  have c1 := get_calls 2748 4 8 w (by decide) (by decide) (by decide)
  rw [v1.1, v1.2.1] at c1
  refine c1.mono ?_
  clear c1
  rintro e w' ⟨rfl, rfl⟩
  go_wp2_with (fail)
  have c1 := put_calls 2748 4 4 7 w (by decide) (by decide) (by decide) (by decide)
  rw [v1.2.2.1, v1.2.2.2.1] at c1
  refine c1.mono ?_
  clear c1
  rintro e w' ⟨rfl, m1, rfl⟩
  go_wp2_with (fail)
  have c1 := put_calls 0 0 2 4 (w.drewN m1) (by decide) (by decide) (by decide) (by decide)
  rw [v1.2.2.2.2.1, v1.2.2.2.2.2] at c1
  refine c1.mono ?_
  clear c1
  rintro e w' ⟨rfl, m2, rfl⟩
  have hb2 := below_drewN (below_drewN (Below.refl w.heap.size w) m1) m2
  have ht2 := Lib.hid (HT.out.below hb2)
  generalize (w.drewN m1).drewN m2 = w2 at *
  go_wp2_with (fail)
  have hr : Row (w2.alloc (.cells #[.int .u64 7, .int .u64 0] 22)) (some ⟨w2.heap.size, 0, none⟩) [7, 0] := Blk.row (e := 22) (heap_alloc_new w2 _)
  have hb3 := hb2.alloc (o := .cells #[.int .u64 7, .int .u64 0] 22) hb2.size
  have ht3 := Lib.hid (HT.out.below hb3)
  have c1 := lowest_calls (some ⟨w2.heap.size, 0, none⟩) [7, 0] 2 100 (w2.alloc (.cells #[.int .u64 7, .int .u64 0] 22)) (by decide) hr (wd_small (by decide)) (by decide) ht3.out
  rw [v2.1, v2.2.1] at c1
  refine c1.mono ?_
  clear c1 hr ht2 hb2
  rintro e w' ⟨rfl, rfl⟩
  generalize w2.alloc (.cells #[.int .u64 7, .int .u64 0] 22) = w3 at *
  go_wp2_with (fail)
  have c1 := pack_calls aText w3 (by decide)
  rw [v3] at c1
  refine c1.mono ?_
  clear c1
  rintro e w4 ⟨A, c, rfl, hr4, hf4, hb4⟩
  have hb5 := hb3.trans (hb4.mono hb3.size)
  have ht5 := Lib.hid (HT.out.below hb5)
  obtain ⟨ad, rfl, hlt, hcs⟩ := hr4 (by decide)
  obtain ⟨g, rfl, _⟩ := hf4 ad rfl
  have hc1 : w4.cell? ⟨g, 1, none⟩ = some (.int .u64 105) := hcs 1 (by decide)
  clear hcs hr4 hf4 hb4 ht3 hb3
  go_wp2_with (fail)
  have hr : Row (w4.alloc (.cells #[.int .u64 7] 22)) (some ⟨w4.heap.size, 0, none⟩) [7] := Blk.row (e := 22) (heap_alloc_new w4 _)
  have c1 := count_calls (some ⟨w4.heap.size, 0, none⟩) [7] 1 2 (w4.alloc (.cells #[.int .u64 7] 22)) (by decide) (by decide) hr (wd_small (by decide)) (by decide)
  rw [v2.2.2] at c1
  refine c1.mono ?_
  clear c1
  rintro e w' ⟨rfl, rfl⟩
  go_wp2_with (fail)
  go_ret
  exact ⟨rfl, hb5.alloc hb5.size _⟩
end Go.Proofs.YtllamgefoibcoaaDoor
