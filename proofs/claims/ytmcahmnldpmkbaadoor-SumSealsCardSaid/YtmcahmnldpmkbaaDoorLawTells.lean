/- SumTells, SumSeals: whatever they are called with, they hand back true; nothing that was there has turned. -/
import Derived.Test.YtmcahmnldpmkbaaDoorSumAlive
namespace Go.Proofs.YtmcahmnldpmkbaaDoor
open Go.RowKit SumMath WordMath
set_option maxRecDepth 100000 in
theorem tells_calls (s : ByteArray) (c : Int) (A : Option Addr) (l : List Nat) (cl : Nat) (w : World) (hs : s.size ≤ 9223372036854775807) (c0 : 0 ≤ c) (c1 : c < 4294967296) (hr : Row w A l) (hl : Wd l) (hlen : l.length ≤ 9223372036854775807) (hT : TabAt w) :
    Calls Tryd.prog 3 #[.string s, .int .u32 c, .slice A l.length cl] w fun e w' => e = .returned (.bool true) ∧ Below w.heap.size w w' := by
  have HT := Lib.hid hT
  clear hT
  by_cases hbig : 1024 < s.size
  · go_enter Tryd.func3, Tryd.ntmps3
    go_wp2_with (go_at_call 8; refine (alive_calls _ HT.out).mono ?_; rintro e w' ⟨rfl, hb⟩)
    go_ret
    exact ⟨rfl, hb⟩
  by_cases hbig2 : 100 < l.length
  · go_enter Tryd.func3, Tryd.ntmps3
    go_wp2_with (go_at_call 8; refine (alive_calls _ HT.out).mono ?_; rintro e w' ⟨rfl, hb⟩)
    go_ret
    exact ⟨rfl, hb⟩
  obtain ⟨i0, hi0, hz0, hs0, hb0⟩ := info_parts u64_info
  have HZ := Lib.hid hz0
  have HS := Lib.hid hs0
  have HB := Lib.hid hb0
  have HI := Lib.hid hi0
  clear hz0 hs0 hb0 hi0
  obtain ⟨c, rfl⟩ := Int.eq_ofNat_of_zero_le c0
  have hc : c < 4294967296 := by omega
  clear c0 c1
  go_enter Tryd.func3, Tryd.ntmps3
  go_wp2_with (fail)
  refine (of_calls s w (by omega) HT.out).mono ?_
  rintro e w' ⟨rfl, rfl⟩
  go_wp2_with (fail)
  refine (rof_calls s w (by omega)).mono ?_
  rintro e w' ⟨rfl, rfl⟩
  go_wp2_with (fail)
  refine (more_calls c s w hc (by omega) HT.out).mono ?_
  rintro e w' ⟨rfl, rfl⟩
  go_wp2_with (fail)
  refine (rmore_calls c s w hc (by omega)).mono ?_
  rintro e w' ⟨rfl, rfl⟩
  go_wp2_with (at_builtin; refine wpList_cloneW (by rfl) (.const (.slice none 0 0)) (.tmp 31) 23 rfl 36 i0 Tryd.underlying23 HI.out HZ.out HS.out HB.out A l cl rfl rfl hr (by omega) ?_; intro A1 c1 w1 hr1 hf1 hb1 _ hc1)
  refine (words_calls A1 l c1 w1 hr1 hl hl.mem (by omega) (HT.out.below hb1)).mono ?_
  rintro e w2 ⟨rfl, hb2⟩
  have hB2 := hb1.trans (hb2.mono hb1.size)
  go_wp2_with (fail)
  refine (rwords_calls A l cl w2 (hr.below hB2) hl (by omega)).mono ?_
  rintro e w3 ⟨rfl, hb3⟩
  have hB3 := hB2.trans (hb3.mono hB2.size)
  go_wp2_with (fail)
  refine (alive_calls w3 (HT.out.below hB3)).mono ?_
  rintro e w4 ⟨rfl, hb4⟩
  go_wp2_with (fail)
  go_ret
  exact ⟨rfl, hB3.trans (hb4.mono hB3.size)⟩
set_option maxRecDepth 100000 in
theorem seals_calls (A : Option Addr) (l : List Nat) (c : Nat) (w : World) (hr : Row w A l) (hl : Wd l) (hlen : l.length ≤ 9223372036854775807) (hcap : l.length ≤ c) (hT : TabAt w) :
    Calls Tryd.prog 4 #[.slice A l.length c] w fun e w' => e = .returned (.bool true) ∧ Below w.heap.size w w' := by
  have HT := Lib.hid hT
  clear hT
  by_cases hbig2 : 100 < l.length
  · go_enter Tryd.func4, Tryd.ntmps4
    go_wp2_with (go_at_call 8; refine (alive_calls _ HT.out).mono ?_; rintro e w' ⟨rfl, hb⟩)
    go_ret
    exact ⟨rfl, hb⟩
  obtain ⟨i0, hi0, hz0, hs0, hb0⟩ := info_parts u64_info
  have HZ := Lib.hid hz0
  have HS := Lib.hid hs0
  have HB := Lib.hid hb0
  have HI := Lib.hid hi0
  clear hz0 hs0 hb0 hi0
  have hlo : (openL l).length ≤ l.length := by
    unfold openL; split
    · rw [List.length_take]; omega
    · simp
  have hls := sealed_len l
  have HSE := Lib.hid (sameV_self (openL l))
  have HSL := Lib.hid (sameV_self (sealed l))
  have HSS := Lib.hid (sameV_self l)
  go_enter Tryd.func4, Tryd.ntmps4
  go_wp2_with (at_builtin; refine wpList_cloneC rfl (.const (.slice none 0 0)) (.tmp 12) 23 rfl 36 i0 Tryd.underlying23 HI.out HZ.out HS.out HB.out A l c rfl rfl hr (by omega) ?_; intro A1 c1 w1 hr1 hf1 hb1 _ hc1)
  refine (open_calls A1 l c1 w1 hr1 hl (by omega) hc1 (HT.out.below hb1)).mono ?_
  rintro e w2 ⟨A2, c2, rfl, hr2, hf2, hb2, hc2⟩
  have hB2 := hb1.trans (hb2.mono hb1.size)
  go_wp2_with (fail)
  refine (ropen_calls A l c w2 (hr.below hB2) hl (by omega) hcap).mono ?_
  rintro e w3 ⟨A3, c3, rfl, hr3, hf3, hb3, hc3⟩
  have hB3 := hB2.trans (hb3.mono hB2.size)
  go_wp2_with (fail)
  refine (same_calls A2 A3 (openL l) (openL l) c2 c3 w3 (hr2.below hb3) hr3 (by omega) (by omega)).mono ?_
  rintro e w' ⟨rfl, m1, rfl⟩
  rw [HSE.out]
  have hB4 := below_drewN hB3 m1
  generalize hw4 : w3.drewN m1 = w4 at *
  have hr14 : Row w4 A1 l := by rw [← hw4]; exact ((hr1.below hb2).below hb3).drewN m1
  clear hw4
  go_wp2_with (fail)
  refine (Seal_calls A1 l c1 w4 hr14 hl (by omega) (HT.out.below hB4)).mono ?_
  rintro e w5 ⟨A5, c5, rfl, hr5, hf5, hb5, hc5⟩
  have hB5 := hB4.trans (hb5.mono hB4.size)
  go_wp2_with (fail)
  refine (rseal_calls A l c w5 (hr.below hB5) hl (by omega)).mono ?_
  rintro e w6 ⟨A6, c6, rfl, hr6, hf6, hb6, hc6⟩
  have hB6 := hB5.trans (hb6.mono hB5.size)
  go_wp2_with (fail)
  have h := same_calls A5 A6 (sealed l) (sealed l) c5 c6 w6 (hr5.below hb6) hr6 (by omega) (by omega)
  rw [hls] at h
  refine h.mono ?_
  clear h
  rintro e w' ⟨rfl, m2, rfl⟩
  rw [HSL.out]
  have hB7 := below_drewN hB6 m2
  generalize hw7 : w6.drewN m2 = w7 at *
  have hr17 : Row w7 A1 l := by rw [← hw7]; exact ((hr14.below hb5).below hb6).drewN m2
  clear hw7
  go_wp2_with (fail)
  refine (same_calls A1 A l l c1 c w7 hr17 (hr.below hB7) (by omega) (by omega)).mono ?_
  rintro e w' ⟨rfl, m3, rfl⟩
  rw [HSS.out]
  have hB8 := below_drewN hB7 m3
  go_wp2_with (fail)
  refine (alive_calls (w7.drewN m3) (HT.out.below hB8)).mono ?_
  rintro e w9 ⟨rfl, hb9⟩
  go_wp2_with (fail)
  go_ret
  exact ⟨by simp, hB8.trans (hb9.mono hB8.size)⟩
end Go.Proofs.YtmcahmnldpmkbaaDoor
