/- WordTexts: for every text, row and number the law's call hands back true; nothing that was there has turned. -/
import Derived.Test.YtllamgefoibcoaaDoorAlive
namespace Go.Proofs.YtllamgefoibcoaaDoor
open Go.RowKit WordMath
theorem text_back (s : ByteArray) : txtV (packL s.data.toList) s.size = s ∧ txtE (packL s.data.toList) s.size = 0 := by
  have hl : (packL s.data.toList).length = wn s.size := by unfold packL; rw [packTo_len]; simp
  have h : isTxt (packL s.data.toList) s.size := ⟨by omega, by rw [hl]; unfold wn; omega⟩
  rw [txtV_yes h, txtE_yes h, Int.toNat_natCast]
  have h2 := text_pack s.data.toList
  rw [show s.data.toList.length = s.size by simp] at h2
  rw [h2]
  simp
theorem texts_calls (s : ByteArray) (A : Option Addr) (l : List Nat) (c : Nat) (n : Int) (w : World) (hs : s.size ≤ 9223372036854775807) (n0 : -9223372036854775808 ≤ n) (n1 : n ≤ 9223372036854775807) (hr : Row w A l) (hl : Wd l) (hlen : l.length ≤ 9223372036854775807) (hT : TabAt w) :
    Calls Tryd.prog 5 #[.string s, .slice A l.length c, .int .i64 n] w fun e w' => e = .returned (.bool true) ∧ Below w.heap.size w w' := by
  have HT := Lib.hid hT
  clear hT
  by_cases hbig : 400 < s.size
  · go_enter Tryd.func5, Tryd.ntmps5
    go_wp2_with (go_at_call 12; refine (alive_calls _ HT.out).mono ?_; rintro e w' ⟨rfl, hb⟩)
    go_ret
    exact ⟨rfl, hb⟩
  by_cases hbig2 : 60 < l.length
  · go_enter Tryd.func5, Tryd.ntmps5
    go_wp2_with (go_at_call 12; refine (alive_calls _ HT.out).mono ?_; rintro e w' ⟨rfl, hb⟩)
    go_ret
    exact ⟨rfl, hb⟩
  obtain ⟨i0', hi0, hz0, hs0, hb0⟩ := info_parts u64_info
  have HZ := Lib.hid hz0
  have HS := Lib.hid hs0
  have HB := Lib.hid hb0
  have HI := Lib.hid hi0
  have hback := text_back s
  have HK := Lib.hid hback
  clear hz0 hs0 hb0 hi0 hback
  have hpl : (packL s.data.toList).length ≤ 60 := by unfold packL; rw [packTo_len]; unfold wn; simp; omega
  have hpw : Wd (packL s.data.toList) := pack_wd s.data.toList _ (Nat.le_refl _)
  go_enter Tryd.func5, Tryd.ntmps5
  go_wp2_with (at_builtin; refine wpList_clone rfl (.const (.slice none 0 0)) (.tmp 23) 29 rfl 22 i0' Tryd.underlying29 HI.out HZ.out HS.out HB.out A l c rfl rfl hr (by omega) ?_; intro A' c' w1 hr1 hf1 hb1 _)
  have hr1l := hr.below hb1
  refine (text_calls A' l c' n w1 n0 hr1 hl (by omega)).mono ?_
  rintro e w2 ⟨rfl, hb2⟩
  have HB2 := hb1.trans (hb2.mono hb1.size)
  have hr2l := hr1l.below hb2
  go_wp2_with (fail)
  refine (rtext_calls A l c n w2 n0 n1 hr2l hl (by omega)).mono ?_
  rintro e w3 ⟨rfl, hb3⟩
  have HB3 := HB2.trans (hb3.mono HB2.size)
  clear hr hr1 hr1l hr2l hb1 hb2 hb3 hf1 HB2
  go_wp2_with (fail)
  refine (pack_calls s w3 (by omega)).mono ?_
  rintro e w4 ⟨X, cx, rfl, hx4, fx4, hb4⟩
  have HB4 := HB3.trans (hb4.mono HB3.size)
  go_wp2_with (fail)
  refine (rpack_calls s w4 (by omega)).mono ?_
  rintro e w5 ⟨Y, cy, rfl, hy5, fy5, hb5⟩
  have HB5 := HB4.trans (hb5.mono HB4.size)
  have hx5 := hx4.below hb5
  clear HB3 HB4 hb4 hb5 fx4 fy5 hx4
  go_wp2_with (fail)
  refine (same_calls X Y _ cx cy w5 hx5 hy5 (by omega)).mono ?_
  rintro e w' ⟨rfl, m1, rfl⟩
  go_wp2_with (fail)
  refine (pack_calls s (w5.drewN m1) (by omega)).mono ?_
  rintro e w6 ⟨Z, cz, rfl, hz6, fz6, hb6⟩
  have HB6 := (below_drewN HB5 m1).trans (hb6.mono HB5.size)
  go_wp2_with (fail)
  refine (text_calls Z (packL s.data.toList) cz s.size w6 (by omega) hz6 hpw (by omega)).mono ?_
  rintro e w7 ⟨rfl, hb7⟩
  have HB7 := HB6.trans (hb7.mono HB6.size)
  rw [HK.out.1, HK.out.2]
  go_wp2_with (fail)
  refine (alive_calls _ (HT.out.below HB7)).mono ?_
  rintro e w' ⟨rfl, hb⟩
  go_wp2_with (fail)
  go_ret
  exact ⟨rfl, HB7.trans (hb.mono HB7.size)⟩
end Go.Proofs.YtllamgefoibcoaaDoor
