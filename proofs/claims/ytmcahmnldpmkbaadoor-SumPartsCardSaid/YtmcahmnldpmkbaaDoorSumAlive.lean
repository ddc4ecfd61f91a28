/- 'alive' hands back true: the answers that it asks are as the document fixes them. -/
import Derived.Test.YtmcahmnldpmkbaaDoorSum6
namespace Go.Proofs.YtmcahmnldpmkbaaDoor
open Go.RowKit SumMath WordMath
def aText : ByteArray := { data := #[49, 50, 51, 52, 53, 54, 55, 56, 57] }
theorem v1 : moreV 0 (bytesN aText.data.toList) = 3421780262 := by decide +kernel
theorem v2 : wordsV [] = 0 := by decide +kernel
theorem v3 : sealed [] = [18446744069414584320] := by decide +kernel
theorem v4 : openB [5, 6] = false := by decide +kernel
theorem v5 (l : List Nat) : openL (sealed l) = l ∧ openB (sealed l) = true := by
  unfold sealed
  exact ⟨openL_snoc_yes rfl, by rw [openB_snoc]; simp⟩
theorem sealed_len (l : List Nat) : (sealed l).length = l.length + 1 := by simp [sealed]
theorem sealed_wd {l : List Nat} (h : Wd l) : Wd (sealed l) := Wd.of_mem fun x hx => by
  unfold sealed at hx
  rw [List.mem_append, List.mem_singleton] at hx
  rcases hx with hx | rfl
  · exact h.mem x hx
  · exact sealW_lt h.mem
theorem wd_small {l : List Nat} (h : l.all (fun x => decide (x < 18446744073709551616)) = true) : Wd l := Wd.of_mem fun x hx => by
  rw [List.all_eq_true] at h
  simpa using h x hx
theorem alive_calls (w : World) (hT : TabAt w) : Calls Tryd.prog 8 #[] w fun e w' => e = .returned (.bool true) ∧ Below w.heap.size w w' := by
  have HT := Lib.hid hT
  clear hT
  have h56 : Wd [5, 6] := wd_small (by decide)
  have hlen := Lib.hid (sealed_len [5, 6])
  have k5 := Lib.hid (v5 [5, 6])
  have k4 := Lib.hid v4
  go_enter Tryd.func8, Tryd.ntmps8
  go_wp2_with (fail)
  have hr1 : Row (w.alloc (.cells #[.int .u64 5, .int .u64 6] 36)) (some ⟨w.heap.size, 0, none⟩) [5, 6] := Blk.row (e := 36) (heap_alloc_new w _)
  have hb1 := (Below.refl w.heap.size w).alloc (o := .cells #[.int .u64 5, .int .u64 6] 36) (Nat.le_refl _)
  refine (Seal_calls (some ⟨w.heap.size, 0, none⟩) [5, 6] 2 (w.alloc (.cells #[.int .u64 5, .int .u64 6] 36)) hr1 h56 (by decide) (HT.out.below hb1)).mono ?_
  rintro e w2 ⟨A2, c2, rfl, hr2, hf2, hb2, hc2⟩
  have hB2 := hb1.trans (hb2.mono hb1.size)
  go_wp2_with (fail)
  refine (open_calls A2 (sealed [5, 6]) c2 w2 hr2 (sealed_wd h56) (by rw [hlen.out]; decide) hc2 (HT.out.below hB2)).mono ?_
  rintro e w3 ⟨A3, c3, rfl, hr3, hf3, hb3, hc3⟩
  rw [k5.out.1, k5.out.2]
  rw [k5.out.1] at hr3
  have hB3 := hB2.trans (hb3.mono hB2.size)
  go_wp2_with (fail)
  have hr4 : Row (w3.alloc (.cells #[.int .u64 5, .int .u64 6] 36)) (some ⟨w3.heap.size, 0, none⟩) [5, 6] := Blk.row (e := 36) (heap_alloc_new w3 _)
  have hb4 := hB3.alloc (o := .cells #[.int .u64 5, .int .u64 6] 36) hB3.size
  have hr3' := hr3.below ((Below.refl w3.heap.size w3).alloc (o := .cells #[.int .u64 5, .int .u64 6] 36) (Nat.le_refl _))
  refine (open_calls (some ⟨w3.heap.size, 0, none⟩) [5, 6] 2 (w3.alloc (.cells #[.int .u64 5, .int .u64 6] 36)) hr4 h56 (by decide) (by decide) (HT.out.below hb4)).mono ?_
  rintro e w5 ⟨A5, c5, rfl, hr5, hf5, hb5, hc5⟩
  rw [k4.out]
  have hB5 := hb4.trans (hb5.mono hb4.size)
  have hr6 := hr3'.below hb5
  go_wp2_with (fail)
  refine (Seal_calls none [] 0 w5 (Row.nil _ _) Wd.nil (by decide) (HT.out.below hB5)).mono ?_
  rintro e w7 ⟨A7, c7, rfl, hr7, hf7, hb7, hc7⟩
  rw [v3]
  rw [v3] at hr7
  have hB7 := hB5.trans (hb7.mono hB5.size)
  have hr8 := hr6.below hb7
  go_wp2_with (fail)
  refine (of_calls aText w7 (by decide) (HT.out.below hB7)).mono ?_
  rintro e w' ⟨rfl, rfl⟩
  rw [v1]
  go_wp2_with (fail)
  refine (words_calls none [] 0 w7 (Row.nil _ _) Wd.nil (by simp) (by decide) (HT.out.below hB7)).mono ?_
  rintro e w9 ⟨rfl, hb9⟩
  rw [v2]
  have hB9 := hB7.trans (hb9.mono hB7.size)
  obtain ⟨ad, rfl, hlt, hcs⟩ := hr8.below hb9 (by decide)
  obtain ⟨g3, rfl, _⟩ := hf3 _ rfl
  have hc1 : w9.cell? ⟨g3, 1, none⟩ = some (.int .u64 6) := hcs 1 (by decide)
  obtain ⟨ad2, rfl, hlt2, hcs2⟩ := hr7.below hb9 (by decide)
  obtain ⟨g7, rfl, _⟩ := hf7 _ rfl
  have hc2 : w9.cell? ⟨g7, 0, none⟩ = some (.int .u64 18446744069414584320) := hcs2 0 (by decide)
  clear hcs hcs2 hr1 hr2 hr3 hr4 hr3' hr5 hr6 hr7 hr8 hb1 hb2 hb3 hb4 hb5 hb7 hb9 hB2 hB3 hB5 hB7 h56
  go_wp2_with (fail)
  go_ret
  exact ⟨rfl, hB9⟩
end Go.Proofs.YtmcahmnldpmkbaaDoor
