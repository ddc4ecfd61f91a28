/- Which attributes a law does not look at. -/
import Derived.Test.YtejhodjbgablaaaCk2
set_option linter.unusedSimpArgs false
set_option linter.unusedVariables false
namespace Go.Proofs.Ytejhodjbgablaaa
open Go.RowKit
structure ABg (x : At) : Prop where
  ac : Bg x.ac
  df : Bg x.df
  xs : x.xs.length ≤ 9223372036854775807
def lgAc (x : Ac) : Bool := decide (100 < x.us.length) || decide (100 < x.gs.length)
def lgOne (p : Xt) : Bool := decide (100 < p.key.size) || decide (100 < p.val.size)
def largeB (x : At) : Bool := lgAc x.ac || (lgAc x.df || (decide (40 < x.xs.length) || x.xs.any lgOne))
theorem large_no {x : At} (h : largeB x = false) : ASm x ∧ ∀ (k : Nat) p, x.xs[k]? = some p → p.key.size ≤ 100 ∧ p.val.size ≤ 100 := by
  unfold largeB at h
  simp only [Bool.or_eq_false_iff, decide_eq_false_iff_not] at h
  obtain ⟨h1, h2, h3, h4⟩ := h
  refine ⟨⟨sm_of_small h1, sm_of_small h2, by omega⟩, fun k p hk => ?_⟩
  have h5 : lgOne p = false := by
    have := List.any_eq_false.1 h4 p (List.mem_of_getElem? hk)
    simpa using this
  unfold lgOne at h5
  rw [Bool.or_eq_false_iff, decide_eq_false_iff_not, decide_eq_false_iff_not] at h5
  exact ⟨by omega, by omega⟩
theorem anyX {L : List Xt} {k : Nat} {p : Xt} (hk : L[k]? = some p) (h : lgOne p = true) : L.any lgOne = true := List.any_eq_true.2 ⟨p, List.mem_of_getElem? hk, h⟩
theorem noX {L : List Xt} (h : ∀ (j : Nat) p, j < L.length → L[j]? = some p → lgOne p = false) : L.any lgOne = false := List.any_eq_false.2 fun p hp => by
  obtain ⟨k, hk⟩ := List.getElem?_of_mem hp
  rw [h k p (List.getElem?_eq_some_iff.1 hk).1 hk]
  simp
set_option maxRecDepth 100000 in
set_option maxHeartbeats 4000000 in
theorem alarge_calls (x : At) (p : ALie) (w : World) (h : ALies w x p) (hs : ABg x) :
    Calls Try.prog 19 #[x.v p] w fun e w' => e = .returned (.bool (largeB x)) ∧ Below w.heap.size w w' := by
  obtain ⟨V, hV⟩ : ∃ V, V = w.alloc (.cells (x.c p) 31) := ⟨_, rfl⟩
  have hb : Below w.heap.size w V := by rw [hV]; exact (Below.refl _ _).alloc (Nat.le_refl _) _
  have hz : Bt V w.heap.size x p := by rw [hV]; exact Bt.new w x p
  have HZ := Lib.hid hz
  have HB := Lib.hid hb
  have HL := Lib.hid (h.below hb)
  have HS := Lib.hid hs
  clear h hz hb hs
  have c : Calls Try.prog 33 #[x.ac.v p.p] V fun e w' => e = .returned (.bool (lgAc x.ac)) ∧ Below V.heap.size V w' := large_calls x.ac p.p V HS.out.ac
  have HV0 : Hid (largeB x = (lgAc x.ac || (lgAc x.df || (decide (40 < x.xs.length) || x.xs.any lgOne)))) := Lib.hid rfl
  obtain ⟨m, hm⟩ : ∃ m, lgAc x.ac = m := ⟨_, rfl⟩
  rw [hm] at c HV0
  have HC := Lib.hid c
  clear hm c
  go_enter Try.func19, Try.ntmps19
  go_upto_region 1 with (fail)
  rw [← hV]
  clear hV
  go_wp2_with (refine wpList_load_part rfl 28 (.tmp 4) rfl w.heap.size 3 rfl (x.ac.c p.p).toList _ HZ.out.ac Try.underlying28 rfl acl_size (x.ac.v p.p) rfl ?_)
  refine HC.out.mono ?_
  rintro e w1 ⟨rfl, hb1⟩
  have HB1 := Lib.hid (HB.out.trans (hb1.mono HB.out.size))
  have HZ1 := Lib.hid (HZ.out.on hb1)
  have HL1 := Lib.hid (HL.out.below hb1)
  clear hb1 HC HZ HB HL
  cases m
  case true =>
    have HV : Hid (largeB x = true) := Lib.hid (by rw [HV0.out]; rfl)
    go_wp2_with (fail)
    go_ret
    exact ⟨by rw [HV.out]; rfl, HB1.out⟩
  case false =>
  rw [Bool.false_or] at HV0
  have c : Calls Try.prog 33 #[x.df.v p.q] w1 fun e w' => e = .returned (.bool (lgAc x.df)) ∧ Below w1.heap.size w1 w' := large_calls x.df p.q w1 HS.out.df
  obtain ⟨m, hm⟩ : ∃ m, lgAc x.df = m := ⟨_, rfl⟩
  rw [hm] at c HV0
  have HC := Lib.hid c
  clear hm c
  go_wp2_with (refine wpList_load_part rfl 28 (.tmp 8) rfl w.heap.size 11 rfl (x.df.c p.q).toList _ HZ1.out.df Try.underlying28 rfl acl_size (x.df.v p.q) rfl ?_)
  refine HC.out.mono ?_
  rintro e w2 ⟨rfl, hb2⟩
  have HB2 := Lib.hid (HB1.out.trans (hb2.mono HB1.out.size))
  have HZ2 := Lib.hid (HZ1.out.on hb2)
  have HL2 := Lib.hid (HL1.out.below hb2)
  clear hb2 HC HZ1 HB1 HL1
  cases m
  case true =>
    have HV : Hid (largeB x = true) := Lib.hid (by rw [HV0.out]; rfl)
    go_wp2_with (fail)
    go_ret
    exact ⟨by rw [HV.out]; rfl, HB2.out⟩
  case false =>
  rw [Bool.false_or] at HV0
  obtain ⟨n, hn⟩ : ∃ n, x.xs.length = n := ⟨_, rfl⟩
  have hn63 : n ≤ 9223372036854775807 := by rw [← hn]; exact HS.out.xs
  have y18 := HZ2.out.c18
  rw [hn] at y18 HV0
  have HN := Lib.hid hn
  clear hn HS
  by_cases h40 : 40 < n
  case pos =>
    have HV : Hid (largeB x = true) := Lib.hid (by rw [HV0.out, decide_eq_true h40]; rfl)
    have d1 : decide ((40 : Int) < (n : Int)) = true := by rw [decide_eq_true_eq]; omega
    go_wp2_with (fail)
    go_ret
    exact ⟨by rw [HV.out]; rfl, HB2.out⟩
  case neg =>
  have HV1 : Hid (largeB x = x.xs.any lgOne) := Lib.hid (by rw [HV0.out, decide_eq_false h40, Bool.false_or])
  have d1 : decide ((40 : Int) < (n : Int)) = false := by rw [decide_eq_false_iff_not]; omega
  go_wp2_with (fail)
  clear d1 y18
  go_loopw [3] (fun i wr => ∃ k : Nat, i = .int .i64 k ∧ k ≤ n ∧ Hid (∀ (j : Nat) q, j < k → x.xs[j]? = some q → lgOne q = false) ∧ wr = w2) (fun i _ => n - (intOf i).toNat)
  case atStart => exact ⟨0, rfl, by omega, Lib.hid (fun j q hj => absurd hj (Nat.not_lt_zero _)), rfl⟩
  case round =>
    obtain ⟨k, rfl, hk, hR, rfl⟩ := hrel
    have y18 := HZ2.out.c18
    rw [HN.out] at y18
    by_cases hkn : k < n
    · obtain ⟨b, o, hX, hlt, hcell⟩ := HL2.out.xs.xt (by rw [HN.out]; omega)
      rw [hX] at y18
      obtain ⟨r, hp⟩ : ∃ r, x.xs[k]? = some r := ⟨_, List.getElem?_eq_getElem (by rw [HN.out]; exact hkn)⟩
      obtain ⟨e1, e2⟩ := hcell k r hp
      have HP := Lib.hid hp
      clear hp hX hcell
      by_cases h1 : 100 < r.key.size
      · have HV : Hid (largeB x = true) := Lib.hid (by rw [HV1.out]; exact anyX HP.out (by unfold lgOne; rw [decide_eq_true h1, Bool.true_or]))
        have d1 : decide ((100 : Int) < (r.key.size : Int)) = true := by rw [decide_eq_true_eq]; omega
        go_wp2_with (fail)
        go_ret
        exact ⟨by rw [HV.out]; rfl, HB2.out⟩
      have d1 : decide ((100 : Int) < (r.key.size : Int)) = false := by rw [decide_eq_false_iff_not]; omega
      by_cases h2 : 100 < r.val.size
      · have HV : Hid (largeB x = true) := Lib.hid (by rw [HV1.out]; exact anyX HP.out (by unfold lgOne; rw [decide_eq_true h2, Bool.or_true]))
        have d2 : decide ((100 : Int) < (r.val.size : Int)) = true := by rw [decide_eq_true_eq]; omega
        go_wp2_with (fail)
        go_ret
        exact ⟨by rw [HV.out]; rfl, HB2.out⟩
      have d2 : decide ((100 : Int) < (r.val.size : Int)) = false := by rw [decide_eq_false_iff_not]; omega
      have hone : lgOne r = false := by unfold lgOne; rw [decide_eq_false h1, decide_eq_false h2, Bool.or_false]
      have HR2 : Hid (∀ (j : Nat) q, j < k + 1 → x.xs[j]? = some q → lgOne q = false) := Lib.hid fun j q hj hq => by
        by_cases hh : j < k
        · exact hR.out j q hh hq
        · obtain rfl : j = k := by omega
          rw [HP.out] at hq
          cases hq
          exact hone
      clear hone h1 h2
      go_wp2_with (fail)
      go_roundw
      case rel => exact ⟨k + 1, by go_num, by omega, HR2, trivial⟩
      case measure => simp [intOf]; omega
    · obtain rfl : k = n := by omega
      have HV : Hid (largeB x = false) := Lib.hid (by rw [HV1.out]; exact noX fun j q hj hq => hR.out j q (by rw [← HN.out]; exact hj) hq)
      go_wp2_with (fail)
      go_ret
      exact ⟨by rw [HV.out]; rfl, HB2.out⟩
end Go.Proofs.Ytejhodjbgablaaa
