/- The table; what update hands back. -/
import Derived.Test.YtipghcpodhokbaaDoorProg
import Derived.Test.YtipghcpodhokbaaDoorMem
import Derived.Test.YtipghcpodhokbaaDoorSumMath
import Derived.WalkKit
import Derived.WalkSpells
import Derived.WalkLawsBesides
import Derived.Lib.Hide
import Derived.Deep.QuietTactic
import Derived.BigQuiet
import Derived.Test.YtipghcpodhokbaaDoorWordT
set_option linter.unusedSimpArgs false
set_option linter.unusedVariables false
namespace Go.Proofs.YtipghcpodhokbaaDoor
open Go.RowKit SumMath
/-- The table lies as it is laid. -/
def TabAt (w : World) : Prop := ∀ j, j < 16 → w.cell? ⟨1, j, none⟩ = some (.int .u32 (tab.getD j 0 : Nat))
theorem TabAt.lt {w : World} (h : TabAt w) : 1 < w.heap.size := by
  have h1 := h 0 (by decide)
  rcases Nat.lt_or_ge 1 w.heap.size with h2 | h2
  · exact h2
  · exfalso
    have : w.heap[1]? = none := Array.getElem?_eq_none h2
    simp [World.cell?, this] at h1
theorem TabAt.below {w w' : World} (h : TabAt w) (hb : Below w.heap.size w w') : TabAt w' := fun j hj => by
  rw [← h j hj]
  exact hb.cell (p := ⟨1, j, none⟩) h.lt
theorem TabAt.drewN {w : World} (h : TabAt w) (n : Nat) : TabAt (w.drewN n) := h
theorem tmod_nat (x n : Nat) : (x : Int).tmod (n : Int) = ((x % n : Nat) : Int) := by
  rw [Int.tmod_eq_emod_of_nonneg (Int.natCast_nonneg _)]; simp
/-- One step by the table. -/
theorem step_key (x t : Nat) (hx : x < 4294967296) (ht : t < 4294967296) : bits .xor .u32 ((x : Int) / 16) (t : Int) = ((x / 16 ^^^ t : Nat) : Int) := by
  have e : ((x : Int) / 16) = ((x / 16 : Nat) : Int) := by simp
  rw [e, u32_xor_nat _ _ (by omega) ht]
theorem update_calls (c b : Nat) (w : World) (hc : c < 4294967296) (hb : b < 256) (hT : TabAt w) :
    Calls Tryd.prog 68 #[.int .u32 c, .int .u8 b] w fun e w' => e = .returned (.int .u32 (upd c b : Nat)) ∧ w = w' := by
  have hx : c ^^^ b < 4294967296 := Nat.xor_lt_two_pow (n := 32) hc (by omega)
  have hy : halves 4 (c ^^^ b) < 4294967296 := halves_lt32 4 hx
  have hc1 := hT ((c ^^^ b) % 16) (by omega)
  have hc2 := hT (halves 4 (c ^^^ b) % 16) (by omega)
  have k1 : bits .xor .u32 (c : Int) (b : Int) = ((c ^^^ b : Nat) : Int) := u32_xor_nat _ _ hc (by omega)
  have k2 := step_key (c ^^^ b) (tab.getD ((c ^^^ b) % 16) 0) hx (tab_lt _)
  have k3 := step_key (halves 4 (c ^^^ b)) (tab.getD (halves 4 (c ^^^ b) % 16) 0) hy (tab_lt _)
  rw [← halves_four] at k2
  rw [← upd_tab] at k3
  have m1 := tmod_nat (c ^^^ b) 16
  have m2 := tmod_nat (halves 4 (c ^^^ b)) 16
  generalize upd c b = z at *
  generalize halves 4 (c ^^^ b) = y at *
  generalize c ^^^ b = x at *
  generalize tab.getD (x % 16) 0 = t1 at *
  generalize tab.getD (y % 16) 0 = t2 at *
  have k1 := Lib.hid k1
  have k2 := Lib.hid k2
  have k3 := Lib.hid k3
  have m1 := Lib.hid m1
  have m2 := Lib.hid m2
  have n1 : x % 16 < 16 := by omega
  have n2 : y % 16 < 16 := by omega
  clear hT
  go_enter Tryd.func68, Tryd.ntmps68
  go_wp2_with (first | rw [k1.out] | rw [m1.out] | rw [m2.out] | rw [k2.out] | rw [k3.out])
  go_ret
  exact ⟨rfl, rfl⟩
theorem flip_key (c : Nat) (h : c < 4294967296) : bits .xor .u32 (IntKind.max .u32) (c : Int) = ((c ^^^ M : Nat) : Int) := by
  have := u32_xor_nat 4294967295 c (by decide) h
  rw [Nat.xor_comm c M]
  exact this
/-- c updated with the first k bytes. -/
def crcTo (c : Nat) (s : ByteArray) (k : Nat) : Nat := crc c ((bytesN s.data.toList).take k)
theorem crcTo_zero (c : Nat) (s : ByteArray) : crcTo c s 0 = c := rfl
theorem crcTo_succ (c : Nat) (s : ByteArray) (k : Nat) (h : k < s.size) : crcTo c s (k + 1) = upd (crcTo c s k) (s[k]).toNat := by
  unfold crcTo
  have hl : k < (bytesN s.data.toList).length := by simpa [bytesN] using h
  rw [List.take_succ_eq_append_getElem hl, crc_snoc]
  congr 1
  simp [bytesN]
  rfl
theorem crcTo_all (c : Nat) (s : ByteArray) : crcTo c s s.size = crc c (bytesN s.data.toList) := by
  unfold crcTo
  rw [List.take_of_length_le (by simp [bytesN])]
theorem crcTo_lt {c : Nat} (s : ByteArray) (k : Nat) (hc : c < 4294967296) : crcTo c s k < 4294967296 :=
  crc_lt hc fun b hb => bytesN_lt _ b (List.mem_of_mem_take hb)
end Go.Proofs.YtipghcpodhokbaaDoor
/- What More and Of hand back. -/
namespace Go.Proofs.YtipghcpodhokbaaDoor
open Go.RowKit SumMath
theorem more_calls (c : Nat) (s : ByteArray) (w : World) (hc : c < 4294967296) (hs : s.size ≤ 1099511627776) (hT : TabAt w) :
    Calls Tryd.prog 61 #[.int .u32 c, .string s] w fun e w' => e = .returned (.int .u32 (moreV c (bytesN s.data.toList) : Nat)) ∧ w = w' := by
  have hfc := flip_lt hc
  have k0 := Lib.hid (flip_key c hc)
  have HT := Lib.hid hT
  clear hT
  have kv : Hid (crcTo (c ^^^ M) s s.size ^^^ M = moreV c (bytesN s.data.toList)) := by
    show crcTo (c ^^^ M) s s.size ^^^ M = _
    rw [crcTo_all]; rfl
  generalize c ^^^ M = c0 at *
  go_enter Tryd.func61, Tryd.ntmps61
  go_wp2_with (first | rw [k0.out])
  go_loop [0, 10] (fun x i => ∃ k : Nat, i = .int .i64 k ∧ k ≤ s.size ∧ x = .int .u32 (crcTo c0 s k : Nat)) (fun _ i => s.size - (intOf i).toNat)
  case atStart => exact ⟨0, rfl, by omega, rfl⟩
  case round =>
    obtain ⟨k, rfl, hk, rfl⟩ := hrel
    have hx := crcTo_lt s k hfc
    by_cases h1 : k < s.size
    · have ks := Lib.hid (crcTo_succ c0 s k h1)
      have hb := UInt8.toNat_lt s[k]
      go_wp2_with (go_at_call 68; refine (update_calls _ _ _ hx hb HT.out).mono ?_; rintro e w' ⟨rfl, rfl⟩)
      go_round
      case rel => exact ⟨k + 1, by go_num, by omega, by rw [ks.out]⟩
      case measure => simp [intOf]; omega
    · obtain rfl : k = s.size := by omega
      have k1 := Lib.hid (flip_key _ hx)
      go_wp2_with (first | rw [k1.out])
      go_ret
      rw [kv.out]
      exact ⟨rfl, rfl⟩
theorem of_calls (s : ByteArray) (w : World) (hs : s.size ≤ 1099511627776) (hT : TabAt w) :
    Calls Tryd.prog 46 #[.string s] w fun e w' => e = .returned (.int .u32 (moreV 0 (bytesN s.data.toList) : Nat)) ∧ w = w' := by
  go_enter Tryd.func46, Tryd.ntmps46
  go_wp2_with (go_at_call 61; refine (more_calls 0 _ _ (by decide) hs hT).mono ?_; rintro e w' ⟨rfl, rfl⟩)
  go_ret
  exact ⟨rfl, rfl⟩
end Go.Proofs.YtipghcpodhokbaaDoor
/- What the document's own More, Of and Words hand back. -/
namespace Go.Proofs.YtipghcpodhokbaaDoor
open Go.RowKit SumMath WordMath
theorem flip_key2 (c : Nat) (h : c < 4294967296) : bits .xor .u32 (c : Int) 4294967295 = ((c ^^^ M : Nat) : Int) :=
  u32_xor_nat c 4294967295 h (by decide)
theorem halves_succ (j c : Nat) : halves (j + 1) c = half (halves j c) := by rw [halves_add]; rfl
theorem half_odd {x : Nat} (h : x % 2 = 1) (hx : x < 4294967296) : bits .xor .u32 ((x : Int) / 2) 3988292384 = ((half x : Nat) : Int) := by
  have e : ((x : Int) / 2) = ((x / 2 : Nat) : Int) := by simp
  have := u32_xor_nat (x / 2) 3988292384 (by omega) (by decide)
  rw [e]
  unfold half
  rw [if_pos h]
  exact this
theorem half_even {x : Nat} (h : ¬ x % 2 = 1) : ((x : Int) / 2) = ((half x : Nat) : Int) := by
  unfold half
  rw [if_neg h]; simp
theorem rmore_calls (c : Nat) (s : ByteArray) (w : World) (hc : c < 4294967296) (hs : s.size ≤ 1099511627776) :
    Calls Tryd.prog 52 #[.int .u32 c, .string s] w fun e w' => e = .returned (.int .u32 (moreV c (bytesN s.data.toList) : Nat)) ∧ w = w' := by
  have hfc := flip_lt hc
  have k0 := Lib.hid (flip_key2 c hc)
  have kv : Hid (crcTo (c ^^^ M) s s.size ^^^ M = moreV c (bytesN s.data.toList)) := by
    show crcTo (c ^^^ M) s s.size ^^^ M = _
    rw [crcTo_all]; rfl
  generalize c ^^^ M = c0 at *
  go_enter Tryd.func52, Tryd.ntmps52
  go_wp2_with (first | rw [k0.out])
  go_loop [0, 5] (fun x i => ∃ k : Nat, i = .int .i64 k ∧ k ≤ s.size ∧ x = .int .u32 (crcTo c0 s k : Nat)) (fun _ i => s.size - (intOf i).toNat)
  case atStart => exact ⟨0, rfl, by omega, rfl⟩
  case round =>
    obtain ⟨k, rfl, hk, rfl⟩ := hrel
    have hx := crcTo_lt s k hfc
    by_cases h1 : k < s.size
    · have ks := Lib.hid (crcTo_succ c0 s k h1)
      have hb := UInt8.toNat_lt s[k]
      have k1 := Lib.hid (u32_xor_nat (crcTo c0 s k) s[k].toNat hx (by omega))
      have hxb : crcTo c0 s k ^^^ s[k].toNat < 4294967296 := Nat.xor_lt_two_pow (n := 32) hx (by omega)
      have ku : Hid (upd (crcTo c0 s k) s[k].toNat = halves 8 (crcTo c0 s k ^^^ s[k].toNat)) := rfl
      generalize crcTo c0 s k ^^^ s[k].toNat = y at *
      go_wp2_with (first | rw [k1.out])
      go_loop [0, 6] (fun x i => ∃ j : Nat, i = .int .i64 j ∧ j ≤ 8 ∧ x = .int .u32 (halves j y : Nat)) (fun _ i => 8 - (intOf i).toNat)
      case atStart => exact ⟨0, rfl, by omega, rfl⟩
      case round =>
        obtain ⟨j, rfl, hj, rfl⟩ := hrel
        have hz := halves_lt32 j hxb
        by_cases h2 : j < 8
        · have hh := Lib.hid (halves_succ j y)
          generalize halves j y = z at *
          by_cases h3 : z % 2 = 1
          · have t1 : ((z : Int) % 2 == 1) = true := by rw [beq_iff_eq]; omega
            have t2 := Lib.hid (half_odd h3 hz)
            go_wp2_with (first | rw [t2.out])
            go_round
            case rel => exact ⟨j + 1, by go_num, by omega, by rw [hh.out]⟩
            case measure => simp [intOf]; omega
          · have t1 : ((z : Int) % 2 == 1) = false := by rw [beq_eq_false_iff_ne]; omega
            have t2 := Lib.hid (half_even h3)
            go_wp2_with (fail)
            go_round
            case rel => exact ⟨j + 1, by go_num, by omega, by rw [hh.out, t2.out]⟩
            case measure => simp [intOf]; omega
        · obtain rfl : j = 8 := by omega
          go_wp2_with (fail)
          go_round
          case rel => exact ⟨k + 1, by go_num, by omega, by rw [ks.out, ku.out]⟩
          case measure => simp [intOf]; omega
    · obtain rfl : k = s.size := by omega
      have k1 := Lib.hid (flip_key2 _ hx)
      go_wp2_with (first | rw [k1.out])
      go_ret
      rw [kv.out]
      exact ⟨rfl, rfl⟩
end Go.Proofs.YtipghcpodhokbaaDoor
/- What the document's own Of hands back. -/
namespace Go.Proofs.YtipghcpodhokbaaDoor
open Go.RowKit SumMath WordMath
theorem rof_calls (s : ByteArray) (w : World) (hs : s.size ≤ 1099511627776) :
    Calls Tryd.prog 35 #[.string s] w fun e w' => e = .returned (.int .u32 (moreV 0 (bytesN s.data.toList) : Nat)) ∧ w = w' := by
  go_enter Tryd.func35, Tryd.ntmps35
  go_wp2_with (go_at_call 52; refine (rmore_calls 0 _ _ (by decide) hs).mono ?_; rintro e w' ⟨rfl, rfl⟩)
  go_ret
  exact ⟨rfl, rfl⟩
end Go.Proofs.YtipghcpodhokbaaDoor
