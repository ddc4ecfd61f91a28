/- WordApart: for every word, two fields and two values the law's call hands back true; nothing that was there has turned. -/
import Derived.Test.YtllamgefoibcoaaDoorAlive
import Derived.Test.YtllamgefoibcoaaDoorPackMath
namespace Go.Proofs.YtllamgefoibcoaaDoor
open Go.RowKit WordMath
theorem putV_range (v a n x : Int) (_v0 : 0 ≤ v) (v1 : v < 18446744073709551616) : 0 ≤ putV v a n x ∧ putV v a n x < 18446744073709551616 := by
  by_cases h : isPut a n x
  · rw [putV_yes h]
    obtain ⟨⟨h1, h2, h3⟩, h4⟩ := h
    have := put_lt v.toNat a.toNat n.toNat x.toNat h4 (by simp; omega) (by omega)
    omega
  · rw [putV_no h]; omega
theorem put_comm (w a n b m v u : Nat) (hv : v < 2 ^ n) (hu : u < 2 ^ m) (h : b + m ≤ a ∨ a + n ≤ b) : put (put w a n v) b m u = put (put w b m u) a n v := by
  apply Nat.eq_of_testBit_eq
  intro i
  rw [testBit_put _ _ _ _ _ hu, testBit_put _ _ _ _ _ hv, testBit_put _ _ _ _ _ hv, testBit_put _ _ _ _ _ hu]
  by_cases h1 : i < a <;> by_cases h2 : i < b <;> by_cases h3 : i < a + n <;> by_cases h4 : i < b + m <;> simp only [h1, h2, h3, h4, if_true, if_false] <;> omega
theorem apart_no (v a n x b m u : Int) (w : World) (v0 : 0 ≤ v) (v1 : v < 18446744073709551616) (ha : a ≤ 9223372036854775807) (x0 : 0 ≤ x) (hT : TabAt w) (h : ¬ isPut a n x) :
    Calls Tryd.prog 6 #[.int .u64 v, .int .i64 a, .int .i64 n, .int .i64 b, .int .i64 m, .int .u64 x, .int .u64 u] w fun e w' => e = .returned (.bool true) ∧ Below w.heap.size w w' := by
  have HT := Lib.hid hT
  have k1 := putV_no (v := v) h
  have k2 := putE_no h
  have c := put_calls v a n x w v0 v1 ha x0
  rw [k1, k2] at c
  have C := Lib.hid c
  clear hT h k1 k2 c
  go_enter Tryd.func6, Tryd.ntmps6
  go_wp2_with (first
    | (go_at_call 10; refine (show Calls Tryd.prog 10 _ _ _ from C.out).mono ?_; rintro e w' ⟨rfl, m, rfl⟩)
    | (go_at_call 12; refine (alive_calls _ (HT.out.drewN _)).mono ?_; rintro e w' ⟨rfl, hb⟩))
  go_ret
  exact ⟨rfl, (below_drewN (Below.refl _ _) _).trans hb⟩
theorem get_put_same {v a n x : Int} (x0 : 0 ≤ x) (h : isPut a n x) : getV (putV v a n x) a n = x := by
  rw [putV_yes h, getV_yes h.1, Int.toNat_natCast, fld_put_same _ _ _ _ h.2]
  omega
theorem apart_off {a n b m : Int} (ha : isFld a n) (hb : isFld b m) (h : ¬ (a < b + m ∧ b < a + n)) : b.toNat + m.toNat ≤ a.toNat ∨ a.toNat + n.toNat ≤ b.toNat := by
  obtain ⟨h1, h2, h3⟩ := ha
  obtain ⟨h4, h5, h6⟩ := hb
  omega
theorem get_put_other {v a n x b m u : Int} (x0 : 0 ≤ x) (h : isPut a n x) (hb : isPut b m u) (hd : ¬ (a < b + m ∧ b < a + n)) : getV (putV (putV v a n x) b m u) a n = x := by
  rw [putV_yes hb, putV_yes h, getV_yes h.1, Int.toNat_natCast, Int.toNat_natCast, fld_put_other _ _ _ _ _ _ hb.2 (by have := apart_off h.1 hb.1 hd; omega), fld_put_same _ _ _ _ h.2]
  omega
theorem put_put {v a n x b m u : Int} (h : isPut a n x) (hb : isPut b m u) (hd : ¬ (a < b + m ∧ b < a + n)) : putV (putV v b m u) a n x = putV (putV v a n x) b m u := by
  rw [putV_yes hb, putV_yes hb, putV_yes h, putV_yes h, Int.toNat_natCast, Int.toNat_natCast, put_comm _ _ _ _ _ _ _ h.2 hb.2 (apart_off h.1 hb.1 hd)]
theorem apart_yes (v a n x b m u : Int) (w : World) (v0 : 0 ≤ v) (v1 : v < 18446744073709551616) (ha : a ≤ 9223372036854775807) (hb : b ≤ 9223372036854775807) (x0 : 0 ≤ x) (u0 : 0 ≤ u) (hT : TabAt w) (h : isPut a n x) :
    Calls Tryd.prog 6 #[.int .u64 v, .int .i64 a, .int .i64 n, .int .i64 b, .int .i64 m, .int .u64 x, .int .u64 u] w fun e w' => e = .returned (.bool true) ∧ Below w.heap.size w w' := by
  have HT := Lib.hid hT
  have e1 := putE_yes h
  have e2 := get_put_same (v := v) x0 h
  have e3 := getE_yes h.1
  obtain ⟨r1, r2⟩ := putV_range v a n x v0 v1
  obtain ⟨r3, r4⟩ := putV_range v b m u v0 v1
  obtain ⟨r5, r6⟩ := putV_range (putV v a n x) b m u r1 r2
  by_cases hp : isPut b m u
  · have e4 := putE_yes hp
    have e7 := getE_yes hp.1
    have e6 := get_put_same (v := putV v a n x) u0 hp
    have bd := h.1
    have bd2 := hp.1
    unfold isFld at bd bd2
    obtain ⟨q1, q2, q3⟩ := bd
    obtain ⟨q4, q5, q6⟩ := bd2
    by_cases hd : a < b + m ∧ b < a + n
    · obtain ⟨d1, d2⟩ := hd
      clear hT h hp
      go_enter Tryd.func6, Tryd.ntmps6
      go_wp2_with (first
        | (go_at_call 10; refine (put_calls _ _ _ _ _ (by omega) (by omega) (by omega) (by omega)).mono ?_; rintro e w' ⟨rfl, m', rfl⟩)
        | (go_at_call 8; refine (get_calls _ _ _ _ (by omega) (by omega) (by omega)).mono ?_; rintro e w' ⟨rfl, rfl⟩)
        | (go_at_call 12; refine (alive_calls _ (by exact (HT.out))).mono ?_; rintro e w' ⟨rfl, hb⟩))
      go_ret
      exact ⟨rfl, (below_drewN (Below.refl _ _) _).trans hb⟩
    · have e5 := get_put_other (v := v) x0 h hp hd
      have e8 := put_put (v := v) h hp hd
      by_cases d1 : a < b + m
      · have d2 : ¬ b < a + n := fun d2 => hd ⟨d1, d2⟩
        clear hT h hp hd
        go_enter Tryd.func6, Tryd.ntmps6
        go_wp2_with (first
          | (go_at_call 10; refine (put_calls _ _ _ _ _ (by omega) (by omega) (by omega) (by omega)).mono ?_; rintro e w' ⟨rfl, m', rfl⟩)
          | (go_at_call 8; refine (get_calls _ _ _ _ (by omega) (by omega) (by omega)).mono ?_; rintro e w' ⟨rfl, rfl⟩)
          | (go_at_call 12; refine (alive_calls _ (by exact (HT.out))).mono ?_; rintro e w' ⟨rfl, hb⟩))
        go_ret
        exact ⟨rfl, (below_drewN (Below.refl _ _) _).trans hb⟩
      · clear hT h hp hd
        go_enter Tryd.func6, Tryd.ntmps6
        go_wp2_with (first
          | (go_at_call 10; refine (put_calls _ _ _ _ _ (by omega) (by omega) (by omega) (by omega)).mono ?_; rintro e w' ⟨rfl, m', rfl⟩)
          | (go_at_call 8; refine (get_calls _ _ _ _ (by omega) (by omega) (by omega)).mono ?_; rintro e w' ⟨rfl, rfl⟩)
          | (go_at_call 12; refine (alive_calls _ (by exact (HT.out))).mono ?_; rintro e w' ⟨rfl, hb⟩))
        go_ret
        exact ⟨rfl, (below_drewN (Below.refl _ _) _).trans hb⟩
  · have e4 := putE_no hp
    clear hT h hp
    go_enter Tryd.func6, Tryd.ntmps6
    go_wp2_with (first
      | (go_at_call 10; refine (put_calls _ _ _ _ _ (by omega) (by omega) (by omega) (by omega)).mono ?_; rintro e w' ⟨rfl, m', rfl⟩)
      | (go_at_call 8; refine (get_calls _ _ _ _ (by omega) (by omega) (by omega)).mono ?_; rintro e w' ⟨rfl, rfl⟩)
      | (go_at_call 12; refine (alive_calls _ (by exact (HT.out))).mono ?_; rintro e w' ⟨rfl, hb⟩))
    go_ret
    exact ⟨rfl, (below_drewN (Below.refl _ _) _).trans hb⟩
theorem apart_calls (v a n x b m u : Int) (w : World) (v0 : 0 ≤ v) (v1 : v < 18446744073709551616) (ha : a ≤ 9223372036854775807) (hb : b ≤ 9223372036854775807) (x0 : 0 ≤ x) (u0 : 0 ≤ u) (hT : TabAt w) :
    Calls Tryd.prog 6 #[.int .u64 v, .int .i64 a, .int .i64 n, .int .i64 b, .int .i64 m, .int .u64 x, .int .u64 u] w fun e w' => e = .returned (.bool true) ∧ Below w.heap.size w w' := by
  by_cases h : isPut a n x
  · exact apart_yes v a n x b m u w v0 v1 ha hb x0 u0 hT h
  · exact apart_no v a n x b m u w v0 v1 ha x0 hT h
end Go.Proofs.YtllamgefoibcoaaDoor
