/- Of, New. -/
import Derived.Test.YtghppmgieljgiaaMed4
import Derived.Deep.OwnRows
namespace Go.Proofs.Ytghppmgieljgiaa
open Go.RowKit
/-- A new device: all its blocks are new. -/
def NewDev (w : World) (K : List Nat) (e : Ending) (w' : World) : Prop :=
  ∃ g, e = .returned (.tuple #[.pointer (some ⟨g, 0, none⟩), .int .i64 0]) ∧ Dev w' g (fun i => w.heap.size ≤ i ∧ i < w'.heap.size) K K [] ∧ Below w.heap.size w w'
theorem OwnR.blkp {w : World} {e : TypeId} {A : Option Addr} {n c : Nat} {l : List Nat} (h : OwnR w e 1 A n c (wv l)) (hn : 0 < n) : n = l.length ∧ ∃ g, A = some ⟨g, 0, none⟩ ∧ Blkp e w g l := by
  obtain ⟨h1, h2, h3, h4⟩ := h
  rw [wv_length, Nat.mul_one] at h1
  refine ⟨h1.symm, ?_⟩
  rcases h4 with ⟨_, h4⟩ | ⟨g, cur, rfl, hg, _, h5⟩
  · omega
  · exact ⟨g, rfl, cur, hg, by rw [h1, ← h5, Nat.mul_one]⟩
theorem of_calls (w : World) (A : Option Addr) (K : List Nat) (c n : Nat) (hr : Cel w A (wv K)) (hK : K.length = 8 * n) (h1 : 1 ≤ n) (h2 : n ≤ 4096) :
    Calls Try.prog 30 #[.slice A K.length c] w (NewDev w K) := by
  have C1 := clonew_calls w A K c hr (by omega)
  have HK := Lib.hid hK
  rw [hK] at C1 ⊢
  clear hK
  go_enter Try.func30, Try.ntmps30
  go_wp2_with (fail)
  refine C1.mono ?_
  rintro e w1 ⟨A1, c1, rfl, o1, b1, l1⟩
  obtain ⟨hq1, g1, rfl, k1⟩ := o1.blkp (by omega)
  have n1 : n * 8 ≤ c1 := by have := o1.2.1; omega
  have m1 := l1 _ rfl
  clear hq1 o1
  have C2 := clonew_calls w1 A K c (hr.below b1) (by have := HK.out; omega)
  rw [HK.out] at C2
  go_wp2_with (fail)
  refine C2.mono ?_
  rintro e w2 ⟨A2, c2, rfl, o2, b2, l2⟩
  obtain ⟨hq2, g2, rfl, k2⟩ := o2.blkp (by omega)
  have n2 : n * 8 ≤ c2 := by have := o2.2.1; omega
  have m2 := l2 _ rfl
  clear hq2 o2
  go_wp2_with (fail)
  go_ret2
  have z1 := b1.size
  have z2 := b2.size
  have q1 := k1.lt
  have q2 := k2.lt
  have l1' : w.heap.size ≤ g1 := m1
  have l2' : w1.heap.size ≤ g2 := m2
  have hk := HK.out
  have hb : Below w.heap.size w w2 := b1.trans (b2.mono z1)
  refine ⟨_, rfl, ⟨g1, c1, g2, c2, none, 0, ⟨?_, (k1.below b2 q1).below ((Below.refl w2.heap.size w2).alloc (Nat.le_refl _) _) (by omega), k2.below ((Below.refl w2.heap.size w2).alloc (Nat.le_refl _) _) q2, OwnR.nil _ _ _, by omega, by omega, by omega⟩, ?_, ?_, ?_, fun ad h => (by cases h), fun i hi => hi.2⟩, hb.alloc (by omega) _⟩
  · rw [hk]
    exact heap_alloc_new _ _
  · simp; omega
  · simp; omega
  · simp; omega
theorem of_bad (w : World) (A : Option Addr) (n c : Nat) (hn : n ≤ 9223372036854775807) (hbad : n % 8 ≠ 0 ∨ n / 8 < 1 ∨ 4096 < n / 8) :
    Calls Try.prog 30 #[.slice A n c] w fun e w' => e = .returned (.tuple #[.pointer none, .int .i64 2]) ∧ w = w' := by
  by_cases h1 : n % 8 = 0
  · obtain ⟨m, rfl⟩ : ∃ m, n = 8 * m := ⟨n / 8, by omega⟩
    by_cases h2 : m < 1
    · go_enter Try.func30, Try.ntmps30
      go_wp2
      go_ret2
      exact ⟨rfl, rfl⟩
    · have h3 : 4096 < m := by omega
      have h4 : 1 ≤ m := by omega
      go_enter Try.func30, Try.ntmps30
      go_wp2
      go_ret2
      exact ⟨rfl, rfl⟩
  · have h2 : ((n : Int) % 8 == 0) = false := by rw [beq_eq_false_iff_ne]; omega
    have h3 : ((n : Int) % 8 != 0) = true := by rw [bne_iff_ne]; omega
    go_enter Try.func30, Try.ntmps30
    go_wp2
    go_ret2
    exact ⟨rfl, rfl⟩
theorem u64_info : (Try.prog.info? 32).map (fun i => (i.zero, i.size, i.bytes)) = some (some (.int .u64 0), 1, 8) := by kernel_rfl
theorem new_bad (w : World) (n : Int) (hbad : n < 1 ∨ 4096 < n) :
    Calls Try.prog 10 #[.int .i64 n] w fun e w' => e = .returned (.tuple #[.pointer none, .int .i64 2]) ∧ w = w' := by
  by_cases h1 : n < 1
  · go_enter Try.func10, Try.ntmps10
    go_wp2
    go_ret2
    exact ⟨rfl, rfl⟩
  · have h2 : 4096 < n := by omega
    have h3 : 1 ≤ n := by omega
    clear hbad
    go_enter Try.func10, Try.ntmps10
    go_wp2
    go_ret2
    exact ⟨rfl, rfl⟩
theorem new_calls (w : World) (n : Nat) (h1 : 1 ≤ n) (h2 : n ≤ 4096) :
    Calls Try.prog 10 #[.int .i64 (n : Nat)] w (NewDev w (List.replicate (8 * n) 0)) := by
  have hmk : ∀ W : World, (Instr.makeSlice 50 (.int .i64 ((n : Int) * 8)) (.int .i64 ((n : Int) * 8))).run Try.prog W = .ok (.slice (some ⟨W.heap.size, 0, none⟩) (8 * n) (8 * n)) (W.alloc (.cells (madeCells #[.int .u64 0] (8 * n)) 32)) := fun W => by
    have h := run_make_row' (P := Try.prog) 50 32 (.int .u64 0) 8 Try.underlying50 u64_info rfl .i64 .i64 (8 * n) (by omega) (by omega) W
    rw [show ((8 * n : Nat) : Int) = (n : Int) * 8 by omega] at h
    exact h
  have C := of_calls (w.alloc (.cells (madeCells #[.int .u64 0] (8 * n)) 32)) (some ⟨w.heap.size, 0, none⟩) (List.replicate (8 * n) 0) (8 * n) n (Blk.new w 32 (8 * n)).part.cel (by simp) h1 h2
  rw [List.length_replicate] at C
  go_enter Try.func10, Try.ntmps10
  go_wp2_with (fail)
  refine C.mono ?_
  rintro e w1 ⟨g, rfl, hd, hb⟩
  go_wp2
  go_ret2
  obtain ⟨gk, ck, gs, cs, A, cp, hc, f1, f2, f3, f4, f5⟩ := hd
  have hz : ∀ i, (w.alloc (.cells (madeCells #[.int .u64 0] (8 * n)) 32)).heap.size ≤ i → w.heap.size ≤ i := fun i hi => by simp at hi; omega
  exact ⟨g, rfl, ⟨gk, ck, gs, cs, A, cp, hc, ⟨hz _ f1.1, f1.2⟩, ⟨hz _ f2.1, f2.2⟩, ⟨hz _ f3.1, f3.2⟩, fun ad e => ⟨hz _ (f4 ad e).1, (f4 ad e).2⟩, fun i hi => hi.2⟩, ((Below.refl _ _).alloc (Nat.le_refl _) _).trans (hb.mono (by simp))⟩
end Go.Proofs.Ytghppmgieljgiaa
