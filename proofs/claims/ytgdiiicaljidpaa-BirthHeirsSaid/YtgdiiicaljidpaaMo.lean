/- The twelve bits of the mode. -/
import Derived.Test.YtgdiiicaljidpaaAtT
import Derived.Test.YtgdiiicaljidpaaAcT
import Derived.Lib.QuietBelow
set_option linter.unusedSimpArgs false
set_option linter.unusedVariables false
set_option linter.unusedSimpArgs false
set_option linter.unusedVariables false
namespace Go.Proofs.Ytgdiiicaljidpaa
open Go.RowKit Go.Sort Go.Lib
def modeN (x : At) : Nat := x.bi % 8 * 512 + bitsN x.ac
theorem bits_lt512 (x : Ac) : bitsN x < 512 := by unfold bitsN; omega
theorem or_mode (m q : Nat) (hm : m < 256) (hq : q < 512) : bits .or .u16 (IntKind.u16.wrap (IntKind.u16.wrap (bits .and .u8 (m : Int) 7) * 512)) (q : Int) = ((m % 8 * 512 + q : Nat) : Int) := by
  rw [and7 m hm]
  have e2 : IntKind.u16.wrap ((m % 8 : Nat) : Int) = ((m % 8 : Nat) : Int) := by rw [IntKind.wrap_u16]; omega
  have e1 : IntKind.u16.wrap (((m % 8 : Nat) : Int) * 512) = ((m % 8 * 512 : Nat) : Int) := by rw [IntKind.wrap_u16]; omega
  rw [e2, e1, u16_or_nat _ _ (by omega) (by omega)]
  have e3 := Nat.two_pow_add_eq_or_of_lt (i := 9) (b := q) (by omega) (m % 8)
  simp only [Nat.reducePow] at e3
  rw [Nat.mul_comm (m % 8) 512, ← e3]
theorem or_mode' (m q : Nat) (hm : m < 256) (hq : q < 512) : bits .or .u16 ((m : Int) % 8 * 512) (q : Int) = ((m % 8 * 512 + q : Nat) : Int) := by
  have h := or_mode m q hm hq
  rw [and7 m hm] at h
  have e2 : IntKind.u16.wrap ((m % 8 : Nat) : Int) = ((m % 8 : Nat) : Int) := by rw [IntKind.wrap_u16]; omega
  have e1 : IntKind.u16.wrap (((m % 8 : Nat) : Int) * 512) = (m : Int) % 8 * 512 := by rw [IntKind.wrap_u16]; omega
  rwa [e2, e1] at h
set_option maxRecDepth 100000 in
set_option maxHeartbeats 1000000 in
theorem rmode_calls (x : At) (p : ALie) (w : World) (hx : Nb x.ac) (hbi : x.bi < 256) :
    Calls Try.prog 18 #[x.v p] w fun e w' => e = .returned (.int .u16 (modeN x : Nat)) ∧ Below w.heap.size w w' := by
  obtain ⟨V, hV⟩ : ∃ V, V = w.alloc (.cells (x.c p) 31) := ⟨_, rfl⟩
  have hb : Below w.heap.size w V := by rw [hV]; exact (Below.refl _ _).alloc (Nat.le_refl _) _
  have hz : Bt V w.heap.size x p := by rw [hV]; exact Bt.new w x p
  have HB := Lib.hid hb
  have k0 := cell_regrown hz.c0
  have k3 := cell_regrown (show V.cell? ⟨w.heap.size, 3, none⟩ = some (.int .u8 (x.ac.ow : Nat)) from hz.cell 3)
  have k4 := cell_regrown (show V.cell? ⟨w.heap.size, 4, none⟩ = some (.int .u8 (x.ac.gr : Nat)) from hz.cell 4)
  have k5 := cell_regrown (show V.cell? ⟨w.heap.size, 5, none⟩ = some (.int .u8 (x.ac.ot : Nat)) from hz.cell 5)
  have k6 := cell_regrown (show V.cell? ⟨w.heap.size, 6, none⟩ = some (.slice p.p.A x.ac.us.length p.p.c) from hz.cell 6)
  have k7 := cell_regrown (show V.cell? ⟨w.heap.size, 7, none⟩ = some (.slice p.p.B x.ac.gs.length p.p.d) from hz.cell 7)
  have k8 := cell_regrown (show V.cell? ⟨w.heap.size, 8, none⟩ = some (.bool x.ac.hm) from hz.cell 8)
  have k9 := cell_regrown (show V.cell? ⟨w.heap.size, 9, none⟩ = some (.int .u8 (x.ac.ms : Nat)) from hz.cell 9)
  have hq := bits_lt512 x.ac
  have HE : Hid ((x.bi : Int) % 8 * 512 + (bitsN x.ac : Int) = ((x.bi % 8 * 512 + bitsN x.ac : Nat) : Int)) := Lib.hid (by omega)
  have cB : ∀ dq os, Calls Try.prog 14 #[x.ac.v p.p] (grow (redrawn V dq) os) fun e w'' => e = .returned (.int .u16 (bitsN x.ac : Nat)) ∧ ∃ p : Regrown, w'' = grow (redrawn V p.d) p.os := fun dq os => Calls.regrown_of (rbits_calls x.ac p.p _ hx)
  obtain ⟨q, hq'⟩ : ∃ q, bitsN x.ac = q := ⟨_, rfl⟩
  have HV : Hid (modeN x = x.bi % 8 * 512 + q) := Lib.hid (by unfold modeN; rw [hq'])
  rw [hq'] at cB HE hq
  clear hx hz hb hq'
  go_enter Try.func18, Try.ntmps18
  go_upto_region 1 with (fail)
  rw [← hV]
  clear hV
  refine wp_region_quiet_below (by kernel_rfl) (by kernel_rfl) ?_
  repeat (first | go_big_quiet_step (first | exact cB _ _) | quiet_step (first | exact cB _ _))
  refine wpQuiet_nil ?_
  intro _ hw'
  obtain ⟨⟨dq, osq⟩, hw''⟩ := hw'
  subst hw''
  go_wp2_with (fail)
  go_ret
  exact ⟨by rw [HV.out, ← HE.out]; rfl, HB.out.trans ((below_regrown V dq osq).mono HB.out.size)⟩
end Go.Proofs.Ytgdiiicaljidpaa
