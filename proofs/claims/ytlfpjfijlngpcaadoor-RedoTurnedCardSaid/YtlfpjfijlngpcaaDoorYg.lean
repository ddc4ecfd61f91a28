/- The law's own example. -/
import Derived.Test.YtlfpjfijlngpcaaDoorYf
import Derived.Test.YtlfpjfijlngpcaaDoorSame
set_option linter.unusedSimpArgs false
set_option linter.unusedVariables false
namespace Go.Proofs.YtlfpjfijlngpcaaDoor
open Go.RowKit WordMath
open SumMath
theorem one_re (w : World) (p : Int) (x : Nat) : Cel (w.alloc (.cells #[.int .i64 p, .int .u64 (x : Int)] 45)) (some ⟨w.heap.size, 0, none⟩) (ev [⟨p, x⟩]) := fun _ =>
  ⟨_, rfl, by simp, cells_re (heap_alloc_new _ _)⟩
theorem two_re (w : World) (p q : Int) (x y : Nat) : Cel (w.alloc (.cells #[.int .i64 p, .int .u64 (x : Int), .int .i64 q, .int .u64 (y : Int)] 45)) (some ⟨w.heap.size, 0, none⟩) (ev [⟨p, x⟩, ⟨q, y⟩]) := fun _ =>
  ⟨_, rfl, by simp, fun j u hu => by
    rw [add_zero_block, cell_of_row _ _ j _ _ (0, 0) (heap_alloc_new _ _), ← hu, List.getElem?_toArray]
    rfl⟩
theorem two_w (w : World) (x y : Nat) : Row (w.alloc (.cells #[.int .u64 (x : Int), .int .u64 (y : Int)] 26)) (some ⟨w.heap.size, 0, none⟩) [x, y] :=
  Row.of_cel fun _ => ⟨_, rfl, by simp, cells_two (heap_alloc_new _ _)⟩
theorem rn_one (p : Int) (x : Nat) (h1 : -9223372036854775808 ≤ p) (h2 : p ≤ 9223372036854775807) (h3 : x < 18446744073709551616) : RN [⟨p, x⟩] := fun k hk => by
  obtain rfl : k = 0 := by simpa using hk
  exact ⟨h1, h2, h3⟩
theorem and_low (v : Nat) (h : v < 18446744073709551616) : bits .and .u64 (v : Int) 65535 = ((v % 65536 : Nat) : Int) := by
  rw [show (65535 : Int) = ((65535 : Nat) : Int) from rfl, u64_and_nat _ _ h (by omega)]
  congr 1
  exact Nat.and_two_pow_sub_one_eq_mod v 16
theorem lay_one : rmayE [⟨5, 7⟩] = 0 ∧ layL [⟨5, 7⟩] = [5, 7] ∧ layC [⟨5, 7⟩] = commitN [⟨5, 7⟩] := ⟨by decide, by rw [layL_yes (by decide)]; rfl, layC_yes (by decide)⟩
theorem lay_none : rmayE [] = 0 ∧ layL [] = [] ∧ layC [] = 20992 := ⟨by decide, by rw [layL_yes (by decide)]; rfl, by decide +kernel⟩
theorem lay_bad : rmayE [⟨1048576, 0⟩] = 2 ∧ layL [⟨1048576, 0⟩] = [] ∧ layC [⟨1048576, 0⟩] = 0 := ⟨by decide, layL_no (by decide), layC_no (by decide)⟩
theorem one_low : bits .and .u64 ((commitN [⟨5, 7⟩] : Nat) : Int) 65535 = 20993 := by
  have h := commit_lt (l := [⟨5, 7⟩]) (by decide) (fun x hx => by simp [bodyL] at hx; omega)
  rw [and_low _ h]
  unfold commitN
  have : ([⟨5, 7⟩] : List Re).length = 1 := rfl
  omega
theorem app_ex : appE [0, 0] [⟨1, 9⟩, ⟨1, 8⟩] = 0 ∧ appR [0, 0] [⟨1, 9⟩, ⟨1, 8⟩] = [0, 8] := ⟨by decide, by rw [appR_yes (by decide)]; rfl⟩
theorem getD_repl (n k : Nat) : (List.replicate n 0).getD k 0 = 0 := by
  rw [List.getD_eq_getElem?_getD, List.getElem?_replicate]
  split <;> rfl
theorem wd_repl (n : Nat) : Wd (List.replicate n 0) := fun k => by rw [getD_repl]; decide
theorem clr_136 : Clr (List.replicate 136 0) := clr_of (by simp) (getD_repl _ _)
theorem bad_135 : Bad (List.replicate 135 0) := bad_len (by simp)
set_option maxRecDepth 100000 in
set_option maxHeartbeats 1000000 in
theorem alive_calls (n : Sn) (w : World) (hT : TabAt w) (hE : ErrAt w) (hN : SnAt w n) : Calls Tryd.prog 9 #[] w fun e w' => e = .returned (.bool true) ∧ Below w.heap.size w w' := by
  have HT := Lib.hid hT
  have HE := Lib.hid hE
  have HSN := Lib.hid hN
  have hmk : ∀ w : World, (Instr.makeSlice 25 (.int .i64 136) (.int .i64 136)).run Tryd.prog w = .ok (.slice (some ⟨w.heap.size, 0, none⟩) 136 136) (w.alloc (.cells (madeCells #[.int .u64 0] 136) 26)) := run_make_row' (P := Tryd.prog) 25 26 (.int .u64 0) 8 Tryd.underlying25 u64_info rfl .i64 .i64 136 (by decide) (by decide)
  have hmk2 : ∀ w : World, (Instr.makeSlice 25 (.int .i64 135) (.int .i64 135)).run Tryd.prog w = .ok (.slice (some ⟨w.heap.size, 0, none⟩) 135 135) (w.alloc (.cells (madeCells #[.int .u64 0] 135) 26)) := run_make_row' (P := Tryd.prog) 25 26 (.int .u64 0) 8 Tryd.underlying25 u64_info rfl .i64 .i64 135 (by decide) (by decide)
  obtain ⟨C1, hC1⟩ : ∃ C, commitN [⟨5, 7⟩] = C := ⟨_, rfl⟩
  have hlow := one_low
  rw [hC1] at hlow
  have HC1 := Lib.hid hC1
  clear hT hE hN hC1
  go_enter Tryd.func9, Tryd.ntmps9
  have B0 := Lib.hid (Below.refl w.heap.size w)
  go_wp2_with (fail)
  have c1 := lay_calls (some ⟨w.heap.size, 0, none⟩) [⟨5, 7⟩] 1 (w.alloc (.cells #[.int .i64 5, .int .u64 7] 45)) (one_re w 5 7) (rn_one 5 7 (by decide) (by decide) (by decide)) (by decide) ((HT.out.below B0.out).below (on_alloc _ _))
  refine c1.mono ?_
  clear c1
  rintro e w1 ⟨R1, cr1, rfl, hr, hb⟩
  rw [lay_one.2.1, lay_one.2.2, lay_one.1]
  rw [lay_one.2.1] at hr
  rw [HC1.out]
  have hbb := (On.trans (on_alloc w _) hb : Below w.heap.size _ _)
  have B1 := Lib.hid (B0.out.trans (hbb.mono B0.out.size))
  clear B0 hbb
  have RB1 := Lib.hid (hr.row)
  clear hr hb
  go_wp2_with (fail)
  have c1 := lay_calls none [] 0 w1 (Cel.nil _ _) (fun k hk => absurd hk (by simp)) (by decide) (HT.out.below B1.out)
  refine c1.mono ?_
  clear c1
  rintro e w2 ⟨R2, cr2, rfl, hr, hb⟩
  rw [lay_none.2.1, lay_none.2.2, lay_none.1]
  rw [lay_none.2.1] at hr
  have hbb := hb
  have B2 := Lib.hid (B1.out.trans (hbb.mono B1.out.size))
  replace RB1 := Lib.hid (RB1.out.below hbb)
  clear B1 hbb
  clear hr hb
  go_wp2_with (fail)
  have c1 := lay_calls (some ⟨w2.heap.size, 0, none⟩) [⟨1048576, 0⟩] 1 (w2.alloc (.cells #[.int .i64 1048576, .int .u64 0] 45)) (one_re w2 1048576 0) (rn_one 1048576 0 (by decide) (by decide) (by decide)) (by decide) ((HT.out.below B2.out).below (on_alloc _ _))
  refine c1.mono ?_
  clear c1
  rintro e w3 ⟨R3, cr3, rfl, hr, hb⟩
  rw [lay_bad.2.1, lay_bad.2.2, lay_bad.1]
  rw [lay_bad.2.1] at hr
  have hbb := (On.trans (on_alloc w2 _) hb : Below w2.heap.size _ _)
  have B3 := Lib.hid (B2.out.trans (hbb.mono B2.out.size))
  replace RB1 := Lib.hid (RB1.out.below hbb)
  clear B2 hbb
  clear hr hb
  go_wp2_with (fail)
  have hblk := Blk.new w3 26 136
  have hon := on_alloc w3 (.cells (madeCells #[.int .u64 0] 136) 26)
  have c1 := read_calls (some ⟨w3.heap.size, 0, none⟩) (List.replicate 136 0) 136 n _ hblk.row (wd_repl _) (by simp) (by simp) ((HSN.out.below B3.out).below hon) ((HT.out.below B3.out).below hon)
  rw [List.length_replicate] at c1
  refine c1.mono ?_
  clear c1 hblk
  rintro e w4 ⟨x4, R4, cr4, rfl, hr, hb⟩
  rw [clr_136.e, clr_136.b, clr_136.l]
  rw [show errR x4 0 = .nilIface from rfl]
  have hbb := (On.trans hon hb : Below w3.heap.size _ _)
  have B4 := Lib.hid (B3.out.trans (hbb.mono B3.out.size))
  replace RB1 := Lib.hid (RB1.out.below hbb)
  clear B3 hbb
  clear hr hb hon
  go_wp2_with (fail)
  have hblk := Blk.new w4 26 135
  have hon := on_alloc w4 (.cells (madeCells #[.int .u64 0] 135) 26)
  have c1 := read_calls (some ⟨w4.heap.size, 0, none⟩) (List.replicate 135 0) 135 n _ hblk.row (wd_repl _) (by simp) (by simp) ((HSN.out.below B4.out).below hon) ((HT.out.below B4.out).below hon)
  rw [List.length_replicate] at c1
  refine c1.mono ?_
  clear c1 hblk
  rintro e w5 ⟨x5, R5, cr5, rfl, hr, hb⟩
  rw [bad_135.e, bad_135.b, bad_135.l]
  rw [show errR x5 7 = mV x5 from rfl]
  have hbb := (On.trans hon hb : Below w4.heap.size _ _)
  have B5 := Lib.hid (B4.out.trans (hbb.mono B4.out.size))
  replace RB1 := Lib.hid (RB1.out.below hbb)
  clear B4 hbb
  clear hr hb hon
  go_wp2_with (fail)
  have hon := on_two w5 (.cells #[.int .u64 0, .int .u64 0] 26) (.cells #[.int .i64 1, .int .u64 9, .int .i64 1, .int .u64 8] 45)
  have ce := two_re (w5.alloc (.cells #[.int .u64 0, .int .u64 0] 26)) 1 1 9 8
  rw [World.size_alloc] at ce
  have c1 := apply_calls (some ⟨w5.heap.size, 0, none⟩) [0, 0] 2 (some ⟨w5.heap.size + 1, 0, none⟩) [⟨1, 9⟩, ⟨1, 8⟩] 2 _ ((two_w w5 0 0).below (on_alloc _ _)) (by decide) ce (by decide)
  refine c1.mono ?_
  clear c1 ce
  rintro e w6 ⟨R6, cr6, rfl, hr, hb⟩
  rw [app_ex.1, app_ex.2]
  rw [app_ex.2] at hr
  have hbb := (On.trans hon hb : Below w5.heap.size _ _)
  have B6 := Lib.hid (B5.out.trans (hbb.mono B5.out.size))
  replace RB1 := Lib.hid (RB1.out.below hbb)
  clear B5 hbb
  have RX := Lib.hid (hr)
  clear hr hb hon
  go_wp2_with (fail)
  have c1 := same_calls R1 (some ⟨w6.heap.size, 0, none⟩) [5, 7] [5, 7] cr1 2 (w6.alloc (.cells #[.int .u64 5, .int .u64 7] 26)) (RB1.out.below (on_alloc _ _)) (two_w w6 5 7) (by decide) (by decide)
  rw [sameV_self] at c1
  refine c1.mono ?_
  clear c1
  rintro e w' ⟨rfl, q, rfl⟩
  have hbb := below_drewN (on_alloc w6 (.cells #[.int .u64 5, .int .u64 7] 26)) q
  have B7 := Lib.hid (B6.out.trans (hbb.mono B6.out.size))
  replace RB1 := Lib.hid (RB1.out.below hbb)
  replace RX := Lib.hid (RX.out.below hbb)
  clear B6 hbb
  generalize ((w6.alloc (.cells #[.int .u64 5, .int .u64 7] 26)).drewN q) = w7 at *
  go_wp2_with (fail)
  have c1 := told_some x5 w7 (HE.out.below B7.out)
  unfold fR at c1
  refine c1.mono ?_
  clear c1
  rintro e w8 ⟨rfl, hb⟩
  have hbb := hb
  have B8 := Lib.hid (B7.out.trans (hbb.mono B7.out.size))
  replace RB1 := Lib.hid (RB1.out.below hbb)
  replace RX := Lib.hid (RX.out.below hbb)
  clear B7 hbb
  clear hb
  go_wp2_with (fail)
  have c1 := same_calls R6 (some ⟨w8.heap.size, 0, none⟩) [0, 8] [0, 8] cr6 2 (w8.alloc (.cells #[.int .u64 0, .int .u64 8] 26)) (RX.out.below (on_alloc _ _)) (two_w w8 0 8) (by decide) (by decide)
  rw [sameV_self] at c1
  refine c1.mono ?_
  clear c1
  rintro e w' ⟨rfl, q, rfl⟩
  go_wp2_with (fail)
  go_ret
  exact ⟨rfl, B8.out.trans ((below_drewN (on_alloc w8 _) q).mono B8.out.size)⟩
end Go.Proofs.YtlfpjfijlngpcaaDoor
