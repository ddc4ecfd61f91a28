/- What the document's own Pack hands back: the same words. -/
import Derived.Test.YtgedahjifbopcaaDoorPackS
namespace Go.Proofs.YtgedahjifbopcaaDoor
open Go.RowKit WordMath
theorem quiet_left {P : Program} {f : FuncId} {args : Array Value} {w : World} {n : Nat} {v : Value}
    (h : Calls P f args (w.drewN n) fun e w' => e = .returned v ∧ w.drewN n = w') : Calls P f args (w.drewN n) fun e w'' => e = .returned v ∧ ∃ m, w'' = w.drewN m :=
  h.mono fun _ _ ⟨he, hm⟩ => ⟨he, n, hm.symm⟩
theorem refput8_calls (v a b : Int) (w : World) (v0 : 0 ≤ v) (v1 : v < 18446744073709551616) (a0 : 0 ≤ a) (a1 : a ≤ 56) (b0 : 0 ≤ b) (b1 : b < 256) :
    Calls Tryd.prog 30 #[.int .u64 v, .int .i64 a, .int .i64 8, .int .u64 b] w fun e w' => e = .returned (.tuple #[.int .u64 (put v.toNat a.toNat 8 b.toNat : Nat), .int .i64 0]) ∧ w = w' := by
  have hp : isPut a 8 b := ⟨⟨a0, by omega, by omega⟩, by simp; omega⟩
  have h := refput_calls v a 8 b w v0 v1 (by omega) b0 (by omega)
  rw [putV_yes hp, putE_yes hp] at h
  exact h
theorem rpack_calls (s : ByteArray) (w : World) (hs : s.size ≤ 140737488355328) :
    Calls Tryd.prog 18 #[.string s] w (GivesRow (packL s.data.toList) w) := by
  have hlen : s.data.toList.length = s.size := by simp
  have hmk := run_make_row' (P := Tryd.prog) 24 42 (.int .u64 0) 8 Tryd.underlying24 u64_info rfl .i64 .i64 (wn s.size) (by unfold wn; omega) (by unfold wn; omega)
  have hd : ((wn s.size : Nat) : Int) = ((s.size : Int) + 7) / 8 := by unfold wn; omega
  rw [hd] at hmk
  have h0 := Lib.hid (blk_pack w s 42 (wn s.size) (by rw [hlen]))
  have HL := Lib.hid hlen
  clear hd hlen
  go_enter Tryd.func18, Tryd.ntmps18
  go_wp2_with (fail)
  go_loopw [4] (fun i wr => ∃ k : Nat, i = .int .i64 k ∧ k ≤ s.size ∧ Blk 42 wr w.heap.size (packTo s.data.toList k) ∧ Below w.heap.size w wr) (fun i _ => s.size - (intOf i).toNat)
  case atStart => exact ⟨0, rfl, by omega, h0.out, (Below.refl _ _).alloc (Nat.le_refl _) _⟩
  case round =>
    obtain ⟨k, rfl, hk, hB, hb⟩ := hrel
    by_cases hks : k < s.size
    · have hc := hB.cell (k / 8) (by rw [packTo_len]; unfold wn; simp; omega)
      have hf := hB.frozen (k / 8)
      have hx := pack_wd s.data.toList k (by simpa using hk) (k / 8)
      have HST := fun nq => Lib.hid (pack_step s k hks (hB.drewN nq) (below_drewN hb nq) (Nat.le_refl _))
      have hb8 := UInt8.toNat_lt s[k]
      have hkw : (k : Int) / 8 < (wn s.size : Nat) := by unfold wn; omega
      have hk0 : (0 : Int) ≤ (k : Int) / 8 := by omega
      have hkn : k / 8 < wn s.size := by omega
      generalize (packTo s.data.toList k).getD (k / 8) 0 = x at *
      go_wp2_with (fail)
      have hc2 : wr.cell? ⟨w.heap.size, ((k : Int) / 8).toNat, none⟩ = some (.int .u64 (x : Int)) := by rw [show ((k : Int) / 8).toNat = k / 8 by omega]; exact hc
      have EK := Lib.hid (show (8 * ((k : Int) % 8)).toNat = 8 * (k % 8) by omega)
      refine wp_region_quiet_lit (by kernel_rfl) (by kernel_rfl) ?_
      repeat (first | go_big_quiet_step ((go_at_call 30; exact quiet_left (refput8_calls _ _ _ _ (by omega) (by omega) (by omega) (by omega) (by omega) (by omega)))) | quiet_step ((go_at_call 30; exact quiet_left (refput8_calls _ _ _ _ (by omega) (by omega) (by omega) (by omega) (by omega) (by omega)))))
      refine wpQuiet_nil ?_
      rintro _ ⟨nq, rfl⟩
      go_wp2_with (fail)
      go_roundw
      case rel => exact ⟨k + 1, by go_num, by omega, (HST nq).out.1, (HST nq).out.2⟩
      case measure => simp [intOf]; omega
    · obtain rfl : k = s.size := by omega
      go_wp2_with (fail)
      go_ret
      have hl : (packL s.data.toList).length = wn s.size := by unfold packL; rw [packTo_len, HL.out]
      refine ⟨some ⟨w.heap.size, 0, none⟩, wn s.size, ?_, ?_, Fresh.at (Nat.le_refl _), hb⟩
      · rw [hl]; rfl
      · have := hB.row
        rw [← HL.out] at this
        exact this
end Go.Proofs.YtgedahjifbopcaaDoor
