/- The document's own New, Of. -/
import Derived.Test.YtghppmgieljgiaaRef1
namespace Go.Proofs.Ytghppmgieljgiaa
open Go.RowKit
def NewRDev (w : World) (K : List Nat) (e : Ending) (w' : World) : Prop :=
  ∃ g, e = .returned (.pointer (some ⟨g, 0, none⟩)) ∧ RDev w' g (fun i => w.heap.size ≤ i ∧ i < w'.heap.size) K [] ∧ Below w.heap.size w w'
theorem rnew_bad (w : World) (n : Int) (hbad : n < 1 ∨ 4096 < n) :
    Calls Try.prog 11 #[.int .i64 n] w fun e w' => e = .returned (.pointer none) ∧ w = w' := by
  by_cases h1 : n < 1
  · go_enter Try.func11, Try.ntmps11
    go_wp2
    go_ret
    exact ⟨rfl, rfl⟩
  · have h2 : 4096 < n := by omega
    have h3 : 1 ≤ n := by omega
    clear hbad
    go_enter Try.func11, Try.ntmps11
    go_wp2
    go_ret
    exact ⟨rfl, rfl⟩
theorem rnew_calls (w : World) (n : Nat) (h1 : 1 ≤ n) (h2 : n ≤ 4096) :
    Calls Try.prog 11 #[.int .i64 (n : Nat)] w (NewRDev w (List.replicate (8 * n) 0)) := by
  have hmk : ∀ W : World, (Instr.makeSlice 50 (.int .i64 (8 * (n : Int))) (.int .i64 (8 * (n : Int)))).run Try.prog W = .ok (.slice (some ⟨W.heap.size, 0, none⟩) (8 * n) (8 * n)) (W.alloc (.cells (madeCells #[.int .u64 0] (8 * n)) 32)) := fun W => by
    have h := run_make_row' (P := Try.prog) 50 32 (.int .u64 0) 8 Try.underlying50 u64_info rfl .i64 .i64 (8 * n) (by omega) (by omega) W
    rw [show ((8 * n : Nat) : Int) = 8 * (n : Int) by omega] at h
    exact h
  go_enter Try.func11, Try.ntmps11
  go_wp2
  go_ret
  refine ⟨_, rfl, ⟨w.heap.size, 8 * n, none, 0, ⟨?_, ?_, OwnR.nil _ _ _, by simp⟩, ?_, ?_, fun ad e => (by cases e), fun i hi => hi.2⟩, ((Below.refl _ _).alloc (Nat.le_refl _) _).alloc (by simp) _⟩
  · rw [List.length_replicate]
    exact heap_alloc2_new _ _ _
  · exact (Blk.new w 32 (8 * n)).part.below ((Below.refl (w.alloc (.cells (madeCells #[.int .u64 0] (8 * n)) 32)).heap.size _).alloc (Nat.le_refl _) _) (by simp)
  · simp
  · simp; omega
theorem rof_calls (w : World) (A : Option Addr) (K : List Nat) (c n : Nat) (hr : Row w A K) (hK : K.length = 8 * n) (h1 : 1 ≤ n) (h2 : n ≤ 4096) :
    Calls Try.prog 31 #[.slice A K.length c] w (NewRDev w K) := by
  obtain ⟨i0, hi0, hz0, hs0, hb0⟩ := info_parts u64_info
  have HI := Lib.hid hi0
  have HZ := Lib.hid hz0
  have HS := Lib.hid hs0
  have HB := Lib.hid hb0
  clear hi0 hz0 hs0 hb0
  have h0 : 0 < K.length := by omega
  have HK := Lib.hid hK
  have HE := Lib.hid (show (((K.length : Nat) : Int) == 0) = false by rw [beq_eq_false_iff_ne]; omega)
  have e1 : ((K.length : Nat) : Int) = 8 * (n : Nat) := by omega
  have e2 : ((8 * (n : Int)) == 0) = false := by rw [beq_eq_false_iff_ne]; omega
  clear hK
  go_enter Try.func31, Try.ntmps31
  go_wp2_with (at_builtin; refine wpList_cloneC rfl (.const (.slice none 0 0)) (.tmp 18) 50 rfl 32 i0 Try.underlying50 HI.out HZ.out HS.out HB.out A K c rfl rfl hr (by omega) ?_; intro A1 c1 w1 hr1 hf1 hb1 hblk hc1)
  go_ret
  obtain ⟨g1, rfl, m1, k1⟩ := hblk h0
  have z1 := hb1.size
  have q1 := k1.lt
  refine ⟨_, rfl, ⟨g1, c1, none, 0, ⟨heap_alloc_new _ _, k1.below ((Below.refl w1.heap.size w1).alloc (Nat.le_refl _) _) q1, OwnR.nil _ _ _, hc1⟩, ?_, ?_, fun ad e => (by cases e), fun i hi => hi.2⟩, hb1.alloc (by omega) _⟩
  · simp; omega
  · simp; omega
theorem rof_bad (w : World) (A : Option Addr) (n c : Nat) (hn : n ≤ 9223372036854775807) (hbad : n = 0 ∨ n % 8 ≠ 0 ∨ 4096 < n / 8) :
    Calls Try.prog 31 #[.slice A n c] w fun e w' => e = .returned (.pointer none) ∧ w = w' := by
  by_cases h0 : n = 0
  · subst h0
    go_enter Try.func31, Try.ntmps31
    go_wp2
    go_ret
    exact ⟨rfl, rfl⟩
  · have hz : ((n : Int) == 0) = false := by rw [beq_eq_false_iff_ne]; omega
    by_cases h1 : n % 8 = 0
    · obtain ⟨m, rfl⟩ : ∃ m, n = 8 * m := ⟨n / 8, by omega⟩
      have hz1 : ((8 * (m : Int)) == 0) = false := by rw [beq_eq_false_iff_ne]; omega
      have h3 : 4096 < m := by omega
      clear hbad hz h1 h0
      go_enter Try.func31, Try.ntmps31
      go_wp2
      go_ret
      exact ⟨rfl, rfl⟩
    · have h2 : ((n : Int) % 8 == 0) = false := by rw [beq_eq_false_iff_ne]; omega
      have h3 : ((n : Int) % 8 != 0) = true := by rw [bne_iff_ne]; omega
      clear hbad h1 h0
      go_enter Try.func31, Try.ntmps31
      go_wp2
      go_ret
      exact ⟨rfl, rfl⟩
end Go.Proofs.Ytghppmgieljgiaa
