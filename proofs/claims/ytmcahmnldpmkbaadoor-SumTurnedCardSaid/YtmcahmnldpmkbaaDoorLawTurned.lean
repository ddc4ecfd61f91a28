/- SumTurned: whatever it is called with, it hands back true; nothing that was there has turned. -/
import Derived.Test.YtmcahmnldpmkbaaDoorSumAlive
import Derived.Test.YtmcahmnldpmkbaaDoorTurnMath
namespace Go.Proofs.YtmcahmnldpmkbaaDoor
open Go.RowKit SumMath WordMath
theorem flip_bit (x b : Nat) (hx : x < 18446744073709551616) (hb : b < 64) : bits .xor .u64 (x : Int) (IntKind.u64.wrap ((2 : Int) ^ b)) = ((x ^^^ 2 ^ b : Nat) : Int) := by
  have h : 2 ^ b < 18446744073709551616 := by
    have := Nat.pow_lt_pow_right (a := 2) (by decide) hb
    simpa using this
  have e : IntKind.u64.wrap ((2 : Int) ^ b) = ((2 ^ b : Nat) : Int) := by
    have e2 : ((2 : Int) ^ b) = ((2 ^ b : Nat) : Int) := by simp
    rw [e2, IntKind.wrap_u64]; exact Int.emod_eq_of_lt (Int.natCast_nonneg _) (Int.ofNat_lt.2 h)
  rw [e, u64_xor_nat _ _ hx h]
set_option maxRecDepth 100000 in
theorem turned_calls (A : Option Addr) (l : List Nat) (cl : Nat) (p : Int) (t : Int) (w : World) (hr : Row w A l) (hl : Wd l) (hlen : l.length ≤ 9223372036854775807) (p0 : 0 ≤ p) (p1 : p < 65536) (t0 : 0 ≤ t) (t1 : t < 4294967296) (hT : TabAt w) :
    Calls Tryd.prog 5 #[.slice A l.length cl, .int .u16 p, .int .u32 t] w fun e w' => e = .returned (.bool true) ∧ Below w.heap.size w w' := by
  have HT := Lib.hid hT
  clear hT
  by_cases hbig3 : 100 < l.length
  · go_enter Tryd.func5, Tryd.ntmps5
    go_wp2_with (go_at_call 8; refine (alive_calls _ HT.out).mono ?_; rintro e w' ⟨rfl, hb⟩)
    go_ret
    exact ⟨rfl, hb⟩
  obtain ⟨i0, hi0, hz0, hs0, hb0⟩ := info_parts u64_info
  have HZ := Lib.hid hz0
  have HS := Lib.hid hs0
  have HB := Lib.hid hb0
  have HI := Lib.hid hi0
  clear hz0 hs0 hb0 hi0
  obtain ⟨p, rfl⟩ := Int.eq_ofNat_of_zero_le p0
  obtain ⟨t, rfl⟩ := Int.eq_ofNat_of_zero_le t0
  have hp : p < 65536 := by omega
  have ht : t < 4294967296 := by omega
  clear p0 p1 t0 t1
  have hls1 := sealed_len l
  have k6 := Lib.hid (v5 l)
  have kss := Lib.hid (sameV_self l)
  have hwx := sealed_wd hl
  go_enter Tryd.func5, Tryd.ntmps5
  go_wp2_with (at_builtin; refine wpList_cloneC rfl (.const (.slice none 0 0)) (.tmp 19) 23 rfl 36 i0 Tryd.underlying23 HI.out HZ.out HS.out HB.out A l cl rfl rfl hr (by omega) ?_; intro A1 c1 w1 hr1 hf1 hb1 _ hc1)
  refine (Seal_calls A1 l c1 w1 hr1 hl (by omega) (HT.out.below hb1)).mono ?_
  rintro e w2 ⟨A2, c2, rfl, hr2, hf2, hb2, hc2⟩
  rw [hls1]
  have hB2 := hb1.trans (hb2.mono hb1.size)
  go_wp2_with (at_builtin; refine wpList_cloneC rfl (.const (.slice none 0 0)) (.tmp 29) 23 rfl 36 i0 Tryd.underlying23 HI.out HZ.out HS.out HB.out A2 (sealed l) c2 rfl (by rw [hls1]; rfl) hr2 (by omega) ?_; intro A3 c3 w3 hr3 hf3 hb3 _ hc3; rw [hls1])
  have hB3 := hB2.trans (hb3.mono hB2.size)
  have h := open_calls A3 (sealed l) c3 w3 hr3 hwx (by omega) hc3 (HT.out.below hB3)
  rw [k6.out.1, k6.out.2, hls1] at h
  refine h.mono ?_
  clear h
  rintro e w4 ⟨A4, c4, rfl, hr4, hf4, hb4, hc4⟩
  have hB4 := hB3.trans (hb4.mono hB3.size)
  go_wp2_with (fail)
  refine (same_calls A4 A l l c4 cl w4 hr4 (hr.below hB4) (by omega) (by omega)).mono ?_
  rintro e w' ⟨rfl, m3, rfl⟩
  rw [kss.out]
  have hB5 := below_drewN hB4 m3
  have hr25 : Row (w4.drewN m3) A2 (sealed l) := ((hr2.below hb3).below hb4).drewN m3
  clear hr1 hf1 hb1 hc1 hr2 hf2 hb2 hc2 hB2 hr3 hf3 hb3 hc3 hB3 hr4 hf4 hb4 hc4 hB4
  generalize w4.drewN m3 = w5 at *
  go_wp2_with (at_builtin; refine wpList_cloneC rfl (.const (.slice none 0 0)) (.tmp 42) 23 rfl 36 i0 Tryd.underlying23 HI.out HZ.out HS.out HB.out A2 (sealed l) c2 rfl (by rw [hls1]; rfl) hr25 (by omega) ?_; intro A6 c6 w6 hr6 hf6 hb6 hblk hc6; rw [hls1])
  obtain ⟨g, rfl, hg6, hB6⟩ := hblk (by rw [hls1]; omega)
  obtain ⟨k, hk, hk2⟩ : ∃ k : Nat, (p : Int) % (64 * ((l.length : Int) + 1) - 31) = (k : Int) ∧ k + 32 ≤ 64 * (l.length + 1) := by
    refine ⟨((p : Int) % (64 * ((l.length : Int) + 1) - 31)).toNat, ?_, ?_⟩
    · rw [Int.toNat_of_nonneg (Int.emod_nonneg _ (by omega))]
    · have := Int.emod_lt_of_pos (p : Int) (show 0 < 64 * ((l.length : Int) + 1) - 31 by omega)
      omega
  have hcap := Nat.le_trans (Nat.le_of_eq hls1.symm) hc6
  have hb56 := hB5.trans (hb6.mono hB5.size)
  rw [hk]
  clear hk hr6 hf6 hr25 hb6
  go_loopw [12] (fun i wr => ∃ (j : Nat) (Y : List Nat), i = .int .i64 j ∧ j ≤ 32 ∧ Turned (sealed l) k t j Y ∧ Blkp 36 wr g Y ∧ Below w.heap.size w wr) (fun i _ => 32 - (intOf i).toNat)
  case atStart => exact ⟨0, _, rfl, by omega, Turned.zero hwx k t, hB6, hb56⟩
  case round =>
    obtain ⟨j, Y, rfl, hj, hT, hB, hb⟩ := hrel
    have hlen2 := hT.len
    rw [hls1] at hlen2
    by_cases hj32 : j < 32
    · by_cases hbit : t / 2 ^ j % 2 = 1
      · have hI : (k + j) / 64 < Y.length := by omega
        have hc := hB.cell _ hI
        have hf := hB.frozen ((k + j) / 64)
        have hw := hT.wd ((k + j) / 64)
        have ht2 := Lib.hid (hT.turn hbit (by rw [hls1]; omega))
        have hset := Lib.hid (hB.set ((k + j) / 64) (Y.getD ((k + j) / 64) 0 ^^^ 2 ^ ((k + j) % 64)))
        have hb1 : (((t : Int) / 2 ^ j).tmod 2 == 1) = true := by
          rw [beq_iff_eq]
          have : ((t : Int) / 2 ^ j) = ((t / 2 ^ j : Nat) : Int) := by simp
          rw [this, Int.tmod_eq_emod_of_nonneg (Int.natCast_nonneg _)]; omega
        clear hbit
        generalize Y.getD ((k + j) / 64) 0 = x at *
        go_wp2_with (fail)
        go_roundw
        case rel =>
          rw [flip_bit x _ hw (Nat.mod_lt _ (by decide))]
          exact ⟨j + 1, _, by go_num, by omega, ht2.out, hset.out, hb.setCell (p := ⟨g, (k + j) / 64, none⟩) (Nat.le_trans hB5.size hg6) _⟩
        case measure => simp [intOf]; omega
      · have ht2 := hT.skip hbit
        have hb1 : (((t : Int) / 2 ^ j).tmod 2 == 1) = false := by
          rw [beq_eq_false_iff_ne]
          have : ((t : Int) / 2 ^ j) = ((t / 2 ^ j : Nat) : Int) := by simp
          rw [this, Int.tmod_eq_emod_of_nonneg (Int.natCast_nonneg _)]; omega
        clear hbit
        go_wp2_with (fail)
        go_roundw
        case rel => exact ⟨j + 1, _, by go_num, by omega, ht2, hB, hb⟩
        case measure => simp [intOf]; omega
    · obtain rfl : j = 32 := by omega
      have hop : Hid (openB Y = decide (t = 0)) := by
        show openB Y = decide (t = 0)
        by_cases h0 : t = 0
        · subst h0
          rw [hT.same hwx, k6.out.2]; rfl
        · rw [openB_no (hT.told hl ht h0)]
          exact (decide_eq_false h0).symm
      have hte : decide (t = 0) = ((t : Int) == 0) := by
        by_cases h0 : t = 0
        · subst h0; rfl
        · rw [decide_eq_false h0]
          symm
          rw [beq_eq_false_iff_ne]; omega
      have hY := hT.wd
      have h := open_calls (some ⟨g, 0, none⟩) Y c6 wr hB.row hY (by omega) (by omega) (HT.out.below hb)
      rw [hlen2, hop.out] at h
      clear hT
      go_wp2_with (fail)
      refine h.mono ?_
      clear h
      rintro e w8 ⟨A8, c8, rfl, hr8, hf8, hb8, hc8⟩
      have hB8 := hb.trans (hb8.mono hb.size)
      go_wp2_with (fail)
      refine (alive_calls w8 (HT.out.below hB8)).mono ?_
      rintro e w9 ⟨rfl, hb9⟩
      go_wp2_with (fail)
      go_ret
      exact ⟨rfl, hB8.trans (hb9.mono hB8.size)⟩
end Go.Proofs.YtmcahmnldpmkbaaDoor
