/- The nine bits of a list. -/
import Derived.Test.YtlejmpinfbmccaaGreatDoorAcT
import Derived.RegionTactic
import Derived.BigRegion
import Derived.Lib.QuietBelow
import Derived.Deep.LoopGhost
import Derived.Laws.Bits64b
import Derived.Laws.BitsAllLaws
set_option linter.unusedSimpArgs false
set_option linter.unusedVariables false
set_option linter.unusedSimpArgs false
set_option linter.unusedVariables false
namespace Go.Proofs.YtlejmpinfbmccaaGreatDoor
open Go.RowKit Go.Sort Go.Lib
/-- The group class; the bits; a list's bits turned; the list of bits. -/
def cls (x : Ac) : Nat := if x.hm then x.ms else x.gr
def bitsN (x : Ac) : Nat := x.ow % 8 * 64 + cls x % 8 * 8 + x.ot % 8
def chA (x : Ac) (b : Nat) : Ac := ⟨b / 64 % 8, (if x.hm then x.gr else b / 8 % 8), b % 8, x.us, x.gs, x.hm, (if x.hm then b / 8 % 8 else x.ms)⟩
def ofA (b : Nat) : Ac := ⟨b / 64 % 8, b / 8 % 8, b % 8, [], [], false, 0⟩
theorem cls_calls (x : Ac) (p : Lie) (w : World) : Calls Tryz.prog 56 #[x.v p] w fun e w' => e = .returned (.int .u8 (cls x : Nat)) ∧ Below w.heap.size w w' := by
  obtain ⟨ow, gr, ot, us, gs, hm, ms⟩ := x
  cases hm
  all_goals
    go_enter Tryz.func56, Tryz.ntmps56
    go_wp2_with (fail)
    go_ret
    exact ⟨rfl, (Below.refl _ _).alloc (Nat.le_refl _) _⟩
/-- Its numbers are a byte's. -/
structure Nb (x : Ac) : Prop where
  ow : x.ow < 256
  gr : x.gr < 256
  ot : x.ot < 256
  ms : x.ms < 256
  pm : ∀ (k : Nat) p, x.gs[k]? = some p → p.pm < 256
theorem Nb.cls {x : Ac} (h : Nb x) : cls x < 256 := by
  have := h.gr
  have := h.ms
  unfold Go.Proofs.YtlejmpinfbmccaaGreatDoor.cls
  split <;> omega
theorem and7 (m : Nat) (hm : m < 256) : bits .and .u8 (m : Int) 7 = ((m % 8 : Nat) : Int) := by
  have := u8_and_nat m 7 hm (by decide)
  have e := Nat.and_two_pow_sub_one_eq_mod m 3
  simp only [Nat.reducePow, Nat.reduceSub] at e
  rw [e] at this
  exact this
theorem or_and (N m : Nat) (hN : N < 64) (hm : m < 256) : bits .or .u16 (IntKind.u16.wrap ((N : Int) * 8)) (IntKind.u16.wrap (bits .and .u8 (m : Int) 7)) = ((N * 8 + m % 8 : Nat) : Int) := by
  rw [and7 m hm]
  have e1 : IntKind.u16.wrap ((N : Int) * 8) = ((N * 8 : Nat) : Int) := by rw [IntKind.wrap_u16]; omega
  have e2 : IntKind.u16.wrap ((m % 8 : Nat) : Int) = ((m % 8 : Nat) : Int) := by rw [IntKind.wrap_u16]; omega
  rw [e1, e2, u16_or_nat _ _ (by omega) (by omega)]
  have e3 := Nat.two_pow_add_eq_or_of_lt (i := 3) (b := m % 8) (by omega) N
  simp only [Nat.reducePow] at e3
  rw [Nat.mul_comm N 8, ← e3]
theorem or_and' (N m : Nat) (hN : N < 64) (hm : m < 256) : bits .or .u16 ((N : Int) * 8) ((m : Int) % 8) = ((N * 8 + m % 8 : Nat) : Int) := by
  have h := or_and N m hN hm
  rw [and7 m hm] at h
  have e1 : IntKind.u16.wrap ((N : Int) * 8) = (N : Int) * 8 := by rw [IntKind.wrap_u16]; omega
  have e2 : IntKind.u16.wrap ((m % 8 : Nat) : Int) = (m : Int) % 8 := by rw [IntKind.wrap_u16]; omega
  rwa [e1, e2] at h
/-- Which cell the group class stands in. -/
def at1 (x : Ac) : Nat := if x.hm then 6 else 1
set_option maxRecDepth 100000 in
theorem classes_calls (b : Nat) (x : Ac) (p : Lie) (w : World) (h : Ab w b x p) : Calls Tryz.prog 55 #[.pointer (some ⟨b, 0, none⟩)] w fun e w' => e = .returned (.agg #[.pointer (some ⟨b, 0, none⟩), .pointer (some ⟨b, at1 x, none⟩), .pointer (some ⟨b, 2, none⟩)]) ∧ Below w.heap.size w w' := by
  obtain ⟨ow, gr, ot, us, gs, hm, ms⟩ := x
  obtain ⟨y0, y1, y2, y3, y4, y5, y6⟩ := h.cells
  simp only at y0 y1 y2 y3 y4 y5 y6
  have hlt := h.lt
  have hne : ¬ w.heap.size = b := by omega
  have hne2 : ¬ b = w.heap.size := by omega
  cases hm
  all_goals
    go_enter Tryz.func55, Tryz.ntmps55
    go_wp2_with (go_region)
    exact bodyPost_ret (v := .agg #[.pointer (some ⟨b, 0, none⟩), .pointer (some ⟨b, at1 _, none⟩), .pointer (some ⟨b, 2, none⟩)]) (by simp [results, Tryz.results55, go_sem, at1]) rfl ⟨rfl, by first | exact (Below.alloc (Below.refl _ _) (Nat.le_refl _) _).drew | exact below_drewN ((Below.refl _ _).alloc (Nat.le_refl _) _) 1⟩
/-- An element of three pointers. -/
theorem run_idx3 (a b c : Option Addr) (k : Nat) (hk : k < 3) (w : World) : (Instr.index 85 (.agg #[.pointer a, .pointer b, .pointer c]) (.int .i64 (k : Nat))).run Tryz.prog w = .ok (.pointer (if k = 0 then a else if k = 1 then b else c)) w := by
  have u1 := Tryz.underlying85
  have u2 := Tryz.underlying84
  have z2 := Tryz.sizeOf84
  have a2 := Tryz.isAgg84
  obtain rfl | rfl | rfl : k = 0 ∨ k = 1 ∨ k = 2 := by omega
  all_goals simp [Instr.index, go_sem, run_underlying u1, part]
/-- The cell that the k-th class stands in; its number; the bits of the first k. -/
def atK (x : Ac) (k : Nat) : Nat := if k = 0 then 0 else if k = 1 then at1 x else 2
def numK (x : Ac) (k : Nat) : Nat := if k = 0 then x.ow else if k = 1 then cls x else x.ot
def bitsK (x : Ac) : Nat → Nat
  | 0 => 0
  | k + 1 => bitsK x k * 8 + numK x k % 8
theorem run_idxK (b : Nat) (x : Ac) (k : Nat) (hk : k < 3) (w : World) : (Instr.index 85 (.agg #[.pointer (some ⟨b, 0, none⟩), .pointer (some ⟨b, at1 x, none⟩), .pointer (some ⟨b, 2, none⟩)]) (.int .i64 (k : Nat))).run Tryz.prog w = .ok (.pointer (some ⟨b, atK x k, none⟩)) w := by
  rw [run_idx3 _ _ _ k hk w]
  unfold atK
  obtain rfl | rfl | rfl : k = 0 ∨ k = 1 ∨ k = 2 := by omega
  all_goals simp
theorem bitsK_lt (x : Ac) (k : Nat) : bitsK x k < 8 ^ k := by
  induction k with
  | zero => simp [bitsK]
  | succ k ih => rw [bitsK, Nat.pow_succ]; omega
theorem bitsK_three (x : Ac) : bitsK x 3 = bitsN x := by
  simp only [bitsK, numK, bitsN]
  simp
  omega
theorem Ab.classK {w : World} {b : Nat} {x : Ac} {p : Lie} (h : Ab w b x p) (k : Nat) (hk : k < 3) : w.cell? ⟨b, atK x k, none⟩ = some (.int .u8 (numK x k : Nat)) := by
  obtain ⟨y0, y1, y2, y3, y4, y5, y6⟩ := h.cells
  obtain ⟨ow, gr, ot, us, gs, hm, ms⟩ := x
  obtain rfl | rfl | rfl : k = 0 ∨ k = 1 ∨ k = 2 := by omega
  · exact y0
  · cases hm
    · exact y1
    · exact y6
  · exact y2
theorem numK_lt {x : Ac} (h : Nb x) (k : Nat) : numK x k < 256 := by
  have h1 := h.ow
  have h2 := h.cls
  have h3 := h.ot
  unfold numK
  split
  · exact h1
  · split
    · exact h2
    · exact h3
set_option maxRecDepth 100000 in
theorem bits_calls (x : Ac) (p : Lie) (w : World) (hx : Nb x) : Calls Tryz.prog 34 #[x.v p] w fun e w' => e = .returned (.int .u16 (bitsN x : Nat)) ∧ Below w.heap.size w w' := by
  obtain ⟨U, hU⟩ : ∃ U, U = w.alloc (.cells (x.c p) 25) := ⟨_, rfl⟩
  have z := Ab.new w x p
  have hb : Below w.heap.size w (w.alloc (.cells (x.c p) 25)) := (Below.refl _ _).alloc (Nat.le_refl _) _
  rw [← hU] at z hb
  have CC := classes_calls _ x p U z
  have HU := Lib.hid hU
  have HZ := Lib.hid z
  have HB := Lib.hid hb
  clear hU z hb
  go_enter Tryz.func34, Tryz.ntmps34
  go_upto_region 2 with (fail)
  rw [← HU.out]
  go_wp2_with (fail)
  refine CC.mono ?_
  rintro e w1 ⟨rfl, hb1⟩
  have HZ1 := Lib.hid (HZ.out.on hb1)
  have HB1 := Lib.hid (HB.out.trans (hb1.mono HB.out.size))
  clear hb1
  go_wp2_with (fail)
  go_loopw [3, 5, 7] (fun v n i wr => ∃ k N : Nat, i = .int .i64 k ∧ k ≤ 3 ∧ v = .int .u16 (N : Nat) ∧ Hid (N = bitsK x k) ∧ wr = w1) (fun _ _ i _ => 3 - (intOf i).toNat)
  case atStart => exact ⟨0, 0, rfl, by omega, rfl, Lib.hid rfl, rfl⟩
  case round =>
    obtain ⟨k, N, rfl, hk, rfl, hN, rfl⟩ := hrel
    by_cases hk3 : k < 3
    · have hc := HZ1.out.classK k hk3
      have hI := fun W => run_idxK w.heap.size x k hk3 W
      obtain ⟨j, hj⟩ : ∃ j, atK x k = j := ⟨_, rfl⟩
      obtain ⟨m, hm⟩ : ∃ m, numK x k = m := ⟨_, rfl⟩
      rw [hj] at hc hI
      rw [hm] at hc
      have HM := Lib.hid hm
      clear hm hj
      have hm256 : m < 256 := by have := numK_lt hx k; have := HM.out; omega
      have hN64 : N < 64 := by
        have h1 := bitsK_lt x k
        have h2 := hN.out
        obtain rfl | rfl | rfl : k = 0 ∨ k = 1 ∨ k = 2 := by omega
        all_goals (simp at h1; omega)
      have hor := Lib.hid (or_and' N m hN64 hm256)
      go_wp2_with (fail)
      go_roundw
      case rel => exact ⟨k + 1, N * 8 + m % 8, by go_num, by omega, by rw [hor.out], Lib.hid (by rw [bitsK, HM.out, ← hN.out]), trivial⟩
      case measure => simp [intOf]; omega
    · obtain rfl : k = 3 := by omega
      have HV : Hid (N = bitsN x) := Lib.hid (by rw [← bitsK_three]; exact hN.out)
      go_wp2_with (fail)
      go_ret
      exact ⟨by rw [← HV.out]; rfl, HB1.out⟩
set_option maxRecDepth 100000 in
theorem rbits_calls (x : Ac) (p : Lie) (w : World) (hx : Nb x) : Calls Tryz.prog 35 #[x.v p] w fun e w' => e = .returned (.int .u16 (bitsN x : Nat)) ∧ Below w.heap.size w w' := by
  obtain ⟨U, hU⟩ : ∃ U, U = w.alloc (.cells (x.c p) 25) := ⟨_, rfl⟩
  have z := Ab.new w x p
  have hb : Below w.heap.size w (w.alloc (.cells (x.c p) 25)) := (Below.refl _ _).alloc (Nat.le_refl _) _
  rw [← hU] at z hb
  obtain ⟨y0, y1, y2, y3, y4, y5, y6⟩ := z.cells
  have cC : ∀ dq os, Calls Tryz.prog 56 #[x.v p] (grow (redrawn U dq) os) fun e w'' => e = .returned (.int .u8 (cls x : Nat)) ∧ ∃ p : Regrown, w'' = grow (redrawn U p.d) p.os := fun dq os => Calls.regrown_of (cls_calls x p _)
  have k0 := cell_regrown y0
  have k1 := cell_regrown y1
  have k2 := cell_regrown y2
  have k3 := cell_regrown y3
  have k4 := cell_regrown y4
  have k5 := cell_regrown y5
  have k6 := cell_regrown y6
  have HU := Lib.hid hU
  have HB := Lib.hid hb
  clear hU z hb y0 y1 y2 y3 y4 y5 y6
  go_enter Tryz.func35, Tryz.ntmps35
  go_upto_region 1 with (fail)
  rw [← HU.out]
  refine wp_region_quiet_below (by kernel_rfl) (by kernel_rfl) ?_
  repeat (first | go_big_quiet_step (exact cC _ _) | quiet_step (exact cC _ _))
  have HN : Hid (((x.ow : Int) % 8 * 64 + (cls x : Int) % 8 * 8 + (x.ot : Int) % 8) = ((bitsN x : Nat) : Int)) := Lib.hid (by unfold bitsN; omega)
  refine wpQuiet_nil ?_
  intro _ hw'
  obtain ⟨⟨dq, osq⟩, hw''⟩ := hw'
  subst hw''
  go_wp2_with (fail)
  go_ret
  exact ⟨by rw [← HN.out]; rfl, HB.out.trans ((below_regrown U dq osq).mono HB.out.size)⟩
end Go.Proofs.YtlejmpinfbmccaaGreatDoor
