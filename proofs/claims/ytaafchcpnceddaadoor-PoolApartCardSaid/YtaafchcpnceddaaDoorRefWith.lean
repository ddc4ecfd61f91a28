/- What the document's own With hands back: the same new row. -/
import Derived.Test.YtaafchcpnceddaaDoorWith
set_option linter.unusedSimpArgs false
set_option linter.unusedVariables false
namespace Go.Proofs.YtaafchcpnceddaaDoor
open Go.RowKit WordMath

theorem refput1_calls (v a b : Int) (w : World) (v0 : 0 ≤ v) (v1 : v < 18446744073709551616) (a0 : 0 ≤ a) (a1 : a < 64) (b0 : 0 ≤ b) (b1 : b < 2) :
    Calls Tryd.prog 34 #[.int .u64 v, .int .i64 a, .int .i64 1, .int .u64 b] w fun e w' => e = .returned (.tuple #[.int .u64 (put v.toNat a.toNat 1 b.toNat : Nat), .int .i64 0]) ∧ w = w' := by
  have hp : isPut a 1 b := ⟨⟨a0, by omega, by omega⟩, by simp; omega⟩
  have h := refput_calls v a 1 b w v0 v1 (by omega) b0 (by omega)
  rw [putV_yes hp, putE_yes hp] at h
  exact h
theorem Row.word' {w : World} {A : Option Addr} {l : List Nat} (h : Row w A l) {i : Int} (hi : isBit l i) :
    ∃ ad, A = some ad ∧ ad.block < w.heap.size ∧ w.cell? (ad.add (i / 64).toNat) = some (.int .u64 ((l.getD (i / 64).toNat 0 : Nat) : Int)) := by
  obtain ⟨h0, h1⟩ := hi
  obtain ⟨ad, e, hl, hc⟩ := h (by omega)
  exact ⟨ad, e, hl, hc _ (by omega)⟩
theorem rwith_calls (A : Option Addr) (l : List Nat) (c : Nat) (i : Int) (on : Bool) (w : World) (hi : i ≤ 9223372036854775807) (hr : Row w A l) (hl : Wd l) (hlen : l.length ≤ 17592186044416) :
    Calls Tryd.prog 24 #[.slice A l.length c, .int .i64 i, .bool on] w (Gives (withL l i on) (hasE l i) w) := by
  obtain ⟨i0, hi0, hz0, hs0, hb0⟩ := info_parts u64_info
  by_cases h : isBit l i
  · have kv := Lib.hid (withL_yes (on := on) h)
    have ke := Lib.hid (hasE_yes h)
    obtain ⟨ad, rfl, hlt, hc⟩ := hr.word' h
    obtain ⟨h0, h1⟩ := h
    have hw := hl (i / 64).toNat
    have hk : (i / 64).toNat < l.length := by omega
    have hkp : 0 < l.length := by omega
    clear hl
    generalize hx : l.getD (i / 64).toNat 0 = x at *
    have HX := Lib.hid hx
    clear hx
    have HC := Lib.hid hc
    have HZ := Lib.hid hz0
    have HS := Lib.hid hs0
    have HB := Lib.hid hb0
    have HI := Lib.hid hi0
    clear hc hz0 hs0 hb0 hi0
    cases on
    all_goals
      go_enter Tryd.func24, Tryd.ntmps24
      go_wp2_with (first
        | (go_at_call 33; refine (rinside_yes _ _ _ _ _ hi (by omega) (by omega)).mono ?_; rintro e w' ⟨rfl, rfl⟩)
        | (go_at_call 34; refine (refput1_calls _ _ _ _ (by omega) (by omega) (by omega) (by omega) (by omega) (by omega)).mono ?_; rintro e w' ⟨rfl, rfl⟩; rw [Int.toNat_natCast])
        | (at_builtin; refine wpList_clone rfl (.const (.slice none 0 0)) (.tmp 17) 22 rfl 38 i0 Tryd.underlying22 HI.out HZ.out HS.out HB.out (some ad) l c rfl rfl hr (by omega) ?_; intro A' c' w1 hr1 hf1 hb1 hblk; obtain ⟨g, rfl, hg, hB⟩ := hblk hkp; have hc1 := (hb1.cell (p := ad.add (i / 64).toNat) (by rw [add_block]; exact hlt)).trans HC.out; have hc2 := hB.cell _ hk; have hf2 := hB.frozen (i / 64).toNat; clear hr1 hf1 hblk))
      go_ret2
      rw [kv.out, ke.out]
      refine ⟨_, c', ?_, (hB.set _ _).row, Fresh.at hg, hb1.setCell (p := ⟨g, (i / 64).toNat, none⟩) hg _⟩
      rw [List.length_set]
      rfl
  · have kv := Lib.hid (withL_no (on := on) h)
    have ke := Lib.hid (hasE_no h)
    have hn : i < 0 ∨ l.length ≤ i / 64 := by unfold isBit at h; omega
    clear h
    go_enter Tryd.func24, Tryd.ntmps24
    go_wp2_with (go_at_call 33; refine (rinside_no _ _ _ _ _ hi (by omega)).mono ?_; rintro e w' ⟨rfl, rfl⟩)
    go_ret2
    rw [kv.out, ke.out]
    exact ⟨none, 0, rfl, Row.nil _ _, Fresh.none, Below.refl _ _⟩
end Go.Proofs.YtaafchcpnceddaaDoor
