/- NameSlashes. -/
import Derived.Test.YtganpdplikbppaaDoorNmLaw1
import Derived.Test.YtganpdplikbppaaDoorNm12
set_option linter.unusedSimpArgs false
set_option linter.unusedVariables false
namespace Go.Proofs.YtganpdplikbppaaDoor
open Go.RowKit Go.Lib SumMath

theorem splits_more {s z : ByteArray} {K j : Nat} {l : List UInt8} (hs : tl s = (tl s).take K ++ 47 :: l) (hz : tl z = (tl s).take K ++ List.replicate j 47 ++ 47 :: l) (h64 : z.size ≤ 64)
    {w w' : World} {e : Ending} (h : Splits z w e w') : Splits s w e w' := by
  have hl : ((tl s).take K ++ List.replicate j 47 ++ 47 :: l).length ≤ 64 := by rw [← hz, ← size_eq]; exact h64
  have hm := more j hl
  rw [← hz, ← hs] at hm
  obtain ⟨e1, e2, e3, e4⟩ := hm
  unfold Splits at h ⊢
  rw [e1, e2, e3, e4]
  exact h
set_option maxRecDepth 100000 in
set_option maxHeartbeats 8000000 in
theorem slashes_law (s : ByteArray) (aa mm : Int) (w : World) (ha0 : 0 ≤ aa) (ha1 : aa < 256) (hm0 : 0 ≤ mm) (hm1 : mm < 256) (hT : TabAt w) :
    Calls Tryd.prog 7 #[.string s, .int .u8 aa, .int .u8 mm] w fun e w' => e = .returned (.bool true) ∧ Below w.heap.size w w' := by
  have HT := Lib.hid hT
  clear hT
  by_cases hs : s.size ≤ 1024
  · have hs' : (s.size : Int) ≤ 1024 := by omega
    obtain ⟨M, hM⟩ : ∃ M : Nat, mm % 9 = M := ⟨(mm % 9).toNat, by omega⟩
    have hM9 : M < 9 := by omega
    have hM2 : mm.tmod 9 = M := by rw [Int.tmod_eq_emod_of_nonneg hm0]; exact hM
    go_enter Tryd.func7, Tryd.ntmps7
    go_wp2_with (fail)
    go_loop [7] (fun i => ∃ K : Nat, i = .int .i64 K ∧ K ≤ 1024 + 256) (fun i => s.size - (RowKit.intOf i).toNat)
    case atStart => exact ⟨aa.toNat, by rw [Int.toNat_of_nonneg ha0], by omega⟩
    case round =>
      obtain ⟨K, rfl, hK⟩ := hrel
      by_cases hlt : K < s.size
      · obtain ⟨b, hb⟩ : ∃ b, s[K] = b := ⟨_, rfl⟩
        have hbl : (tl s)[K]? = some b := by rw [← hb]; exact data_getElem? s K hlt
        have HBL := Lib.hid hbl
        clear hbl
        by_cases h47 : b = 47
        · have t47 : ((b.toNat : Int) != 47) = false := by rw [h47]; decide
          have H47 := Lib.hid h47
          clear h47
          have hge : ¬ ((s.size : Int) ≤ (K : Int)) := by omega
          obtain ⟨x, hx⟩ : ∃ x, s.extract 0 K = x := ⟨_, rfl⟩
          obtain ⟨y, hy⟩ : ∃ y, s.extract K s.size = y := ⟨_, rfl⟩
          go_wp2_with (fail)
          go_loop [8, 9] (fun v i => ∃ (j : Nat) (st : ByteArray), i = .int .i64 j ∧ v = .string st ∧ j ≤ M ∧ st.size ≤ 1024 + j ∧ tl st = (tl s).take K ++ List.replicate j 47) (fun _ i => M - (RowKit.intOf i).toNat)
          case atStart =>
            have hxl : tl x = (tl s).take K := by rw [← hx]; unfold tl; rw [extract_data]; simp
            exact ⟨0, x, rfl, rfl, Nat.zero_le _, by rw [size_eq, show x.data.toList = _ from hxl, List.length_take]; rw [size_eq] at hlt hs; unfold tl; omega, by rw [hxl]; simp⟩
          case round =>
            obtain ⟨j, st, rfl, rfl, hj, hst, htl⟩ := hrel
            by_cases hjM : j < M
            · have HTL := Lib.hid htl
              clear htl
              go_wp2_with (fail)
              go_round
              case rel => exact ⟨j + 1, st ++ ⟨#[47]⟩, by go_num, rfl, by omega, by rw [size_snoc]; omega, by rw [tl_app, HTL.out, List.replicate_succ', List.append_assoc]⟩
              case measure => simp [RowKit.intOf] <;> omega
            · obtain rfl : j = M := by omega
              have hyl : tl y = 47 :: (tl s).drop (K + 1) := by
                rw [← hy]; unfold tl; rw [extract_data, List.take_of_length_le (by rw [List.length_drop, size_eq]; exact Nat.le_refl _)]
                have := HBL.out
                rw [H47.out] at this
                obtain ⟨h1, h2⟩ := List.getElem?_eq_some_iff.1 this
                rw [List.drop_eq_getElem_cons h1, h2]
              have hsl : tl s = (tl s).take K ++ 47 :: (tl s).drop (K + 1) := by
                have := HBL.out
                rw [H47.out] at this
                obtain ⟨h1, h2⟩ := List.getElem?_eq_some_iff.1 this
                rw [← h2, List.getElem_cons_drop, List.take_append_drop]
              have hys : y.size ≤ 1024 := by
                rw [size_eq, show y.data.toList = _ from hyl, List.length_cons, List.length_drop]
                rw [size_eq] at hlt hs
                unfold tl
                omega
              obtain ⟨z, hz⟩ : ∃ z, st ++ y = z := ⟨_, rfl⟩
              have hzl : tl z = (tl s).take K ++ List.replicate j 47 ++ 47 :: (tl s).drop (K + 1) := by rw [← hz, tl_app, htl, hyl]
              have hzs : z.size ≤ 4096 := by
                have : z.size = st.size + y.size := by rw [size_eq, size_eq st, size_eq y, ← hz, show (st ++ y).data.toList = _ from tl_app st y, List.length_append]
                omega
              have HZL := Lib.hid hzl
              have HSL := Lib.hid hsl
              clear hzl hsl hyl htl
              by_cases h64 : z.size ≤ 64
              · have h64' : (z.size : Int) ≤ 64 := by omega
                go_wp2_with (fail)
                refine (split_calls s _ (by omega)).mono ?_
                intro e w1 h1
                obtain ⟨xs, r, d, E, A, c, rfl, hE, hb1, hc1, hl1⟩ := splits_same h1
                have HE := Lib.hid hE
                have HB1 := Lib.hid hb1
                have HC1 := Lib.hid hc1
                clear h1 hE hb1 hc1
                go_wp2_with (fail)
                refine (split_calls z _ (by omega)).mono ?_
                intro e w2 h2
                obtain ⟨A2, c2, rfl, hb2, hc2⟩ := HE.out _ _ _ (splits_more HSL.out HZL.out h64 h2)
                have P2 := alloc_later hb2
                obtain ⟨z0, z1, z2⟩ := three_cells P2
                have hl2 := lt_of_cells P2
                have HB2 := Lib.hid (HB1.out.trans ((below_alloc hb2).mono (by have := HB1.out.size; omega)))
                have C1 := HC1.out.below (below_alloc hb2)
                have HCC := Lib.hid (And.intro C1 hc2)
                clear h2 hb2 C1 hc2 P2
                go_wp2_with (fail)
                refine (same_calls r d A A2 xs c c2 _ (HCC.out.1.below ((Below.refl _ _).alloc (Nat.le_refl _) _)) (HCC.out.2.below ((Below.refl _ _).alloc (Nat.le_refl _) _)) (by omega)).mono ?_
                rintro e w3 ⟨rfl, hb3⟩
                have HB3 := Lib.hid (HB2.out.trans ((below_alloc hb3).mono HB2.out.size))
                clear hb3 z0 z1 z2
                go_wp2_with (fail)
                refine (alive_calls _ (HT.out.below HB3.out)).mono ?_
                rintro e w4 ⟨rfl, hb4⟩
                have HB4 := Lib.hid (HB3.out.trans (hb4.mono HB3.out.size))
                clear hb4
                go_wp2_with (fail)
                go_ret
                exact ⟨rfl, HB4.out⟩
              · have h64' : (64 : Int) < (z.size : Int) := by omega
                go_wp2_with (fail)
                refine (alive_calls _ HT.out).mono ?_
                rintro e w1 ⟨rfl, hb1⟩
                have HB1 := Lib.hid hb1
                clear hb1
                go_wp2_with (fail)
                go_ret
                exact ⟨rfl, HB1.out⟩
        · have t47 : ((b.toNat : Int) != 47) = true := by
            rw [bne_iff_ne]
            intro e
            exact h47 (UInt8.toNat_inj.1 (by simpa using Int.ofNat.inj e))
          go_wp2_with (fail)
          go_round
          case rel => exact ⟨K + 1, by go_num, by omega⟩
          case measure => simp [RowKit.intOf] <;> omega
      · have hge : (s.size : Int) ≤ (K : Int) := by omega
        go_wp2_with (fail)
        refine (alive_calls _ HT.out).mono ?_
        rintro e w1 ⟨rfl, hb1⟩
        have HB1 := Lib.hid hb1
        clear hb1
        go_wp2_with (fail)
        go_ret
        exact ⟨rfl, HB1.out⟩
  · have hs' : (1024 : Int) < (s.size : Int) := by omega
    go_enter Tryd.func7, Tryd.ntmps7
    go_wp2_with (fail)
    refine (alive_calls _ HT.out).mono ?_
    rintro e w1 ⟨rfl, hb1⟩
    have HB1 := Lib.hid hb1
    clear hb1
    go_wp2_with (fail)
    go_ret
    exact ⟨rfl, HB1.out⟩
end Go.Proofs.YtganpdplikbppaaDoor
