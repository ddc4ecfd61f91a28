/- SumGoes: whatever it is called with, it hands back true; nothing that was there has turned. -/
import Derived.Test.YtmcahmnldpmkbaaDoorSumAlive
namespace Go.Proofs.YtmcahmnldpmkbaaDoor
open Go.RowKit SumMath WordMath
theorem bytesN_append (s t : ByteArray) : bytesN (s ++ t).data.toList = bytesN s.data.toList ++ bytesN t.data.toList := by simp [bytesN]
theorem goes1 (s t : ByteArray) (c : Nat) : moreV (moreV c (bytesN s.data.toList)) (bytesN t.data.toList) = moreV c (bytesN (s ++ t).data.toList) := by
  rw [bytesN_append, moreV_append]
def noText : ByteArray := { data := #[] }
theorem goes2 (c : Nat) : moreV c (bytesN noText.data.toList) = c := moreV_nil c
set_option maxRecDepth 100000 in
theorem goes_calls (s t : ByteArray) (c : Int) (A : Option Addr) (l : List Nat) (cl : Nat) (w : World) (hs : s.size ≤ 9223372036854775807) (ht : t.size ≤ 9223372036854775807) (c0 : 0 ≤ c) (c1 : c < 4294967296) (hr : Row w A l) (hl : Wd l) (hlen : l.length ≤ 9223372036854775807) (hT : TabAt w) :
    Calls Tryd.prog 6 #[.string s, .string t, .int .u32 c, .slice A l.length cl] w fun e w' => e = .returned (.bool true) ∧ Below w.heap.size w w' := by
  have HT := Lib.hid hT
  clear hT
  by_cases hbig : 1024 < s.size
  · go_enter Tryd.func6, Tryd.ntmps6
    go_wp2_with (go_at_call 8; refine (alive_calls _ HT.out).mono ?_; rintro e w' ⟨rfl, hb⟩)
    go_ret
    exact ⟨rfl, hb⟩
  by_cases hbig2 : 1024 < t.size
  · go_enter Tryd.func6, Tryd.ntmps6
    go_wp2_with (go_at_call 8; refine (alive_calls _ HT.out).mono ?_; rintro e w' ⟨rfl, hb⟩)
    go_ret
    exact ⟨rfl, hb⟩
  by_cases hbig3 : 100 < l.length
  · go_enter Tryd.func6, Tryd.ntmps6
    go_wp2_with (go_at_call 8; refine (alive_calls _ HT.out).mono ?_; rintro e w' ⟨rfl, hb⟩)
    go_ret
    exact ⟨rfl, hb⟩
  obtain ⟨i0, hi0, hz0, hs0, hb0⟩ := info_parts u64_info
  have HZ := Lib.hid hz0
  have HS := Lib.hid hs0
  have HB := Lib.hid hb0
  have HI := Lib.hid hi0
  clear hz0 hs0 hb0 hi0
  obtain ⟨c, rfl⟩ := Int.eq_ofNat_of_zero_le c0
  have hc : c < 4294967296 := by omega
  clear c0 c1
  have hst : (s ++ t).size ≤ 1099511627776 := by rw [ByteArray.size_append]; omega
  have k1 := Lib.hid (goes1 s t 0)
  have k2 := Lib.hid (goes1 s t c)
  have k3 := Lib.hid (goes2 c)
  have hm1 : moreV 0 (bytesN s.data.toList) < 4294967296 := moreV_lt (by decide) (bytesN_lt _)
  have hm2 : moreV c (bytesN s.data.toList) < 4294967296 := moreV_lt hc (bytesN_lt _)
  have hls1 := sealed_len l
  have hls2 := sealed_len (sealed l)
  have k5 := Lib.hid (v5 (sealed l))
  have k6 := Lib.hid (v5 l)
  have kss := Lib.hid (sameV_self l)
  go_enter Tryd.func6, Tryd.ntmps6
  go_wp2_with (fail)
  refine (of_calls s w (by omega) HT.out).mono ?_
  rintro e w' ⟨rfl, rfl⟩
  go_wp2_with (fail)
  refine (more_calls _ t w hm1 (by omega) HT.out).mono ?_
  rintro e w' ⟨rfl, rfl⟩
  go_wp2_with (fail)
  refine (of_calls (s ++ t) w hst HT.out).mono ?_
  rintro e w' ⟨rfl, rfl⟩
  rw [k1.out]
  go_wp2_with (fail)
  refine (more_calls c s w hc (by omega) HT.out).mono ?_
  rintro e w' ⟨rfl, rfl⟩
  go_wp2_with (fail)
  refine (more_calls _ t w hm2 (by omega) HT.out).mono ?_
  rintro e w' ⟨rfl, rfl⟩
  rw [k2.out]
  go_wp2_with (fail)
  refine (more_calls c (s ++ t) w hc hst HT.out).mono ?_
  rintro e w' ⟨rfl, rfl⟩
  go_wp2_with (fail)
  refine (more_calls c noText w hc (by decide) HT.out).mono ?_
  rintro e w' ⟨rfl, rfl⟩
  rw [k3.out]
  go_wp2_with (at_builtin; refine wpList_cloneC rfl (.const (.slice none 0 0)) (.tmp 56) 23 rfl 36 i0 Tryd.underlying23 HI.out HZ.out HS.out HB.out A l cl rfl rfl hr (by omega) ?_; intro A1 c1 w1 hr1 hf1 hb1 _ hc1)
  refine (Seal_calls A1 l c1 w1 hr1 hl (by omega) (HT.out.below hb1)).mono ?_
  rintro e w2 ⟨A2, c2, rfl, hr2, hf2, hb2, hc2⟩
  have hB2 := hb1.trans (hb2.mono hb1.size)
  have h := Seal_calls A2 (sealed l) c2 w2 hr2 (sealed_wd hl) (by omega) (HT.out.below hB2)
  rw [hls1] at h
  go_wp2_with (fail)
  refine h.mono ?_
  clear h
  rintro e w3 ⟨A3, c3, rfl, hr3, hf3, hb3, hc3⟩
  have hB3 := hB2.trans (hb3.mono hB2.size)
  have h := open_calls A3 (sealed (sealed l)) c3 w3 hr3 (sealed_wd (sealed_wd hl)) (by omega) hc3 (HT.out.below hB3)
  rw [k5.out.1, k5.out.2, hls2, hls1] at h
  rw [hls2, hls1]
  go_wp2_with (fail)
  refine h.mono ?_
  clear h
  rintro e w4 ⟨A4, c4, rfl, hr4, hf4, hb4, hc4⟩
  have hB4 := hB3.trans (hb4.mono hB3.size)
  have h := open_calls A4 (sealed l) c4 w4 hr4 (sealed_wd hl) (by omega) hc4 (HT.out.below hB4)
  rw [k6.out.1, k6.out.2, hls1] at h
  rw [hls1]
  go_wp2_with (fail)
  refine h.mono ?_
  clear h
  rintro e w5 ⟨A5, c5, rfl, hr5, hf5, hb5, hc5⟩
  have hB5 := hB4.trans (hb5.mono hB4.size)
  go_wp2_with (fail)
  refine (same_calls A5 A l l c5 cl w5 hr5 (hr.below hB5) (by omega) (by omega)).mono ?_
  rintro e w' ⟨rfl, m3, rfl⟩
  rw [kss.out]
  have hB8 := below_drewN hB5 m3
  go_wp2_with (fail)
  refine (alive_calls (w5.drewN m3) (HT.out.below hB8)).mono ?_
  rintro e w9 ⟨rfl, hb9⟩
  go_wp2_with (fail)
  go_ret
  exact ⟨rfl, hB8.trans (hb9.mono hB8.size)⟩
end Go.Proofs.YtmcahmnldpmkbaaDoor
