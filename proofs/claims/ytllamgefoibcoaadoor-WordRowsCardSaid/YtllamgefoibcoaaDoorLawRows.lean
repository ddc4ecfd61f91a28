/- WordRows: for every row, number and bool the law's call hands back true; nothing that was there has turned. -/
import Derived.Test.YtllamgefoibcoaaDoorAlive
namespace Go.Proofs.YtllamgefoibcoaaDoor
open Go.RowKit WordMath
theorem withL_len (l : List Nat) (i : Int) (on : Bool) : (withL l i on).length ≤ l.length := by
  by_cases h : isBit l i
  · rw [withL_yes h, List.length_set]; exact Nat.le_refl _
  · rw [withL_no h]; exact Nat.zero_le _
theorem rows_calls (A : Option Addr) (l : List Nat) (c : Nat) (i : Int) (on : Bool) (w : World) (i0 : -9223372036854775808 ≤ i) (i1 : i ≤ 9223372036854775807) (hr : Row w A l) (hl : Wd l) (hlen : l.length ≤ 9223372036854775807) (hT : TabAt w) :
    Calls Tryd.prog 4 #[.slice A l.length c, .int .i64 i, .bool on] w fun e w' => e = .returned (.bool true) ∧ Below w.heap.size w w' := by
  have HT := Lib.hid hT
  clear hT
  by_cases hbig : 40 < l.length
  · go_enter Tryd.func4, Tryd.ntmps4
    go_wp2_with (go_at_call 12; refine (alive_calls _ HT.out).mono ?_; rintro e w' ⟨rfl, hb⟩)
    go_ret
    exact ⟨rfl, hb⟩
  · obtain ⟨i0', hi0, hz0, hs0, hb0⟩ := info_parts u64_info
    have HZ := Lib.hid hz0
    have HS := Lib.hid hs0
    have HB := Lib.hid hb0
    have HI := Lib.hid hi0
    clear hz0 hs0 hb0 hi0
    go_enter Tryd.func4, Tryd.ntmps4
    go_wp2_with (at_builtin; refine wpList_clone rfl (.const (.slice none 0 0)) (.tmp 24) 29 rfl 22 i0' Tryd.underlying29 HI.out HZ.out HS.out HB.out A l c rfl rfl hr (by omega) ?_; intro A' c' w1 hr1 hf1 hb1 _)
    have hr1l := hr.below hb1
    have ht1 := Lib.hid (HT.out.below hb1)
    have HB1 := hb1
    refine (has_calls A' l c' i w1 i1 hr1 hl).mono ?_
    rintro e w' ⟨rfl, rfl⟩
    go_wp2_with (fail)
    refine (rhas_calls A l c i w1 i1 hr1l hl).mono ?_
    rintro e w' ⟨rfl, rfl⟩
    go_wp2_with (fail)
    refine (with_calls A' l c' i on w1 i1 hr1 hl (by omega)).mono ?_
    rintro e w2 ⟨X, cx, rfl, hx2, fx2, hb2⟩
    have HB2 := HB1.trans (hb2.mono HB1.size)
    have hr2 := hr1.below hb2
    have hr2l := hr1l.below hb2
    go_wp2_with (fail)
    refine (rwith_calls A l c i on w2 i1 hr2l hl (by omega)).mono ?_
    rintro e w3 ⟨Y, cy, rfl, hy3, fy3, hb3⟩
    have HB3 := HB2.trans (hb3.mono HB2.size)
    have hr3 := hr2.below hb3
    have hr3l := hr2l.below hb3
    have hx3 := hx2.below hb3
    have HT3 := Lib.hid (HT.out.below HB3)
    clear hr hr1 hr1l hr2 hr2l hx2 ht1 hb1 hb2 hb3 hf1 fx2 fy3 HB1 HB2
    go_wp2_with (fail)
    refine (lowest_calls A' l c' i w3 i0 hr3 hl (by omega) HT3.out).mono ?_
    rintro e w' ⟨rfl, rfl⟩
    go_wp2_with (fail)
    refine (rlowest_calls A l c i w3 i1 hr3l hl (by omega)).mono ?_
    rintro e w' ⟨rfl, rfl⟩
    go_wp2_with (fail)
    refine (same_calls X Y (withL l i on) cx cy w3 hx3 hy3 (by have := withL_len l i on; omega)).mono ?_
    rintro e w' ⟨rfl, m1, rfl⟩
    go_wp2_with (fail)
    refine (count_calls A' l c' i (w3.drewN m1) i0 i1 (hr3.drewN m1) hl (by omega)).mono ?_
    rintro e w' ⟨rfl, rfl⟩
    go_wp2_with (fail)
    refine (rcount_calls A l c i (w3.drewN m1) i1 (hr3l.drewN m1) hl (by omega)).mono ?_
    rintro e w' ⟨rfl, rfl⟩
    go_wp2_with (fail)
    refine (same_calls A' A l c' c (w3.drewN m1) (hr3.drewN m1) (hr3l.drewN m1) (by omega)).mono ?_
    rintro e w' ⟨rfl, m2, rfl⟩
    go_wp2_with (fail)
    have HB4 := below_drewN HB3 (m1 + m2)
    refine (alive_calls _ (HT.out.below HB4)).mono ?_
    rintro e w' ⟨rfl, hb⟩
    go_wp2_with (fail)
    go_ret
    exact ⟨rfl, HB4.trans (hb.mono HB4.size)⟩
end Go.Proofs.YtllamgefoibcoaaDoor
