/- The table; what update hands back. -/
import Derived.Test.YtlfpjfijlngpcaaDoorProg
import Derived.Test.YtlfpjfijlngpcaaDoorMem
import Derived.Test.YtlfpjfijlngpcaaDoorSumMath
import Derived.WalkKit
import Derived.WalkSpells
import Derived.WalkLawsBesides
import Derived.Lib.Hide
import Derived.Deep.QuietTactic
import Derived.BigQuiet
set_option linter.unusedSimpArgs false
set_option linter.unusedVariables false
namespace Go.Proofs.YtlfpjfijlngpcaaDoor
open Go.RowKit SumMath
/-- The table lies as it is laid. -/
def TabAt (w : World) : Prop := ∀ j, j < 16 → w.cell? ⟨5, j, none⟩ = some (.int .u32 (tab.getD j 0 : Nat))
theorem TabAt.lt {w : World} (h : TabAt w) : 5 < w.heap.size := by
  have h1 := h 0 (by decide)
  rcases Nat.lt_or_ge 5 w.heap.size with h2 | h2
  · exact h2
  · exfalso
    have : w.heap[5]? = none := Array.getElem?_eq_none h2
    simp [World.cell?, this] at h1
theorem TabAt.below {w w' : World} (h : TabAt w) (hb : Below w.heap.size w w') : TabAt w' := fun j hj => by
  rw [← h j hj]
  exact hb.cell (p := ⟨5, j, none⟩) h.lt
theorem TabAt.drewN {w : World} (h : TabAt w) (n : Nat) : TabAt (w.drewN n) := h
theorem tmod_nat (x n : Nat) : (x : Int).tmod (n : Int) = ((x % n : Nat) : Int) := by
  rw [Int.tmod_eq_emod_of_nonneg (Int.natCast_nonneg _)]; simp
/-- One step by the table. -/
theorem step_key (x t : Nat) (hx : x < 4294967296) (ht : t < 4294967296) : bits .xor .u32 ((x : Int) / 16) (t : Int) = ((x / 16 ^^^ t : Nat) : Int) := by
  have e : ((x : Int) / 16) = ((x / 16 : Nat) : Int) := by simp
  rw [e, u32_xor_nat _ _ (by omega) ht]
theorem update_calls (c b : Nat) (w : World) (hc : c < 4294967296) (hb : b < 256) (hT : TabAt w) :
    Calls Tryd.prog 38 #[.int .u32 c, .int .u8 b] w fun e w' => e = .returned (.int .u32 (upd c b : Nat)) ∧ w = w' := by
  have hx : c ^^^ b < 4294967296 := Nat.xor_lt_two_pow (n := 32) hc (by omega)
  have hy : halves 4 (c ^^^ b) < 4294967296 := halves_lt32 4 hx
  have hc1 := hT ((c ^^^ b) % 16) (by omega)
  have hc2 := hT (halves 4 (c ^^^ b) % 16) (by omega)
  have k1 : bits .xor .u32 (c : Int) (b : Int) = ((c ^^^ b : Nat) : Int) := u32_xor_nat _ _ hc (by omega)
  have k2 := step_key (c ^^^ b) (tab.getD ((c ^^^ b) % 16) 0) hx (tab_lt _)
  have k3 := step_key (halves 4 (c ^^^ b)) (tab.getD (halves 4 (c ^^^ b) % 16) 0) hy (tab_lt _)
  rw [← halves_four] at k2
  rw [← upd_tab] at k3
  have m1 := tmod_nat (c ^^^ b) 16
  have m2 := tmod_nat (halves 4 (c ^^^ b)) 16
  generalize upd c b = z at *
  generalize halves 4 (c ^^^ b) = y at *
  generalize c ^^^ b = x at *
  generalize tab.getD (x % 16) 0 = t1 at *
  generalize tab.getD (y % 16) 0 = t2 at *
  have k1 := Lib.hid k1
  have k2 := Lib.hid k2
  have k3 := Lib.hid k3
  have m1 := Lib.hid m1
  have m2 := Lib.hid m2
  have n1 : x % 16 < 16 := by omega
  have n2 : y % 16 < 16 := by omega
  clear hT
  go_enter Tryd.func38, Tryd.ntmps38
  go_wp2_with (first | rw [k1.out] | rw [m1.out] | rw [m2.out] | rw [k2.out] | rw [k3.out])
  go_ret
  exact ⟨rfl, rfl⟩
theorem flip_key (c : Nat) (h : c < 4294967296) : bits .xor .u32 (IntKind.max .u32) (c : Int) = ((c ^^^ M : Nat) : Int) := by
  have := u32_xor_nat 4294967295 c (by decide) h
  rw [Nat.xor_comm c M]
  exact this
/-- c updated with the first k bytes. -/
def crcTo (c : Nat) (s : ByteArray) (k : Nat) : Nat := crc c ((bytesN s.data.toList).take k)
theorem crcTo_zero (c : Nat) (s : ByteArray) : crcTo c s 0 = c := rfl
theorem crcTo_succ (c : Nat) (s : ByteArray) (k : Nat) (h : k < s.size) : crcTo c s (k + 1) = upd (crcTo c s k) (s[k]).toNat := by
  unfold crcTo
  have hl : k < (bytesN s.data.toList).length := by simpa [bytesN] using h
  rw [List.take_succ_eq_append_getElem hl, crc_snoc]
  congr 1
  simp [bytesN]
  rfl
theorem crcTo_all (c : Nat) (s : ByteArray) : crcTo c s s.size = crc c (bytesN s.data.toList) := by
  unfold crcTo
  rw [List.take_of_length_le (by simp [bytesN])]
theorem crcTo_lt {c : Nat} (s : ByteArray) (k : Nat) (hc : c < 4294967296) : crcTo c s k < 4294967296 :=
  crc_lt hc fun b hb => bytesN_lt _ b (List.mem_of_mem_take hb)
end Go.Proofs.YtlfpjfijlngpcaaDoor
