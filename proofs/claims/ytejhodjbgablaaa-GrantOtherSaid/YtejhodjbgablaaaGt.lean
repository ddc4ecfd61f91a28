/- What the laws share: what they don't look at; the chapter's example. -/
import Derived.Test.YtejhodjbgablaaaGr
import Derived.Test.YtejhodjbgablaaaLw
set_option linter.unusedSimpArgs false
set_option linter.unusedVariables false
namespace Go.Proofs.Ytejhodjbgablaaa
open Go.RowKit
def largeG (c : Cr) (x : At) : Bool := largeB x || decide (60 < c.gs.length)
set_option maxRecDepth 100000 in
theorem glarge_calls (c : Cr) (A : Option Addr) (n : Nat) (x : At) (p : ALie) (w : World) (hc : CLies w c A) (h : ALies w x p) (hs : ABg x) :
    Calls Try.prog 8 #[c.v A n, x.v p] w fun e w' => e = .returned (.bool (largeG c x)) ∧ Below w.heap.size w w' := by
  obtain ⟨V, hV⟩ : ∃ V, V = (w.alloc (.cells (c.c A n) 25)).alloc (.cells (x.c p) 31) := ⟨_, rfl⟩
  have S0 : Hid (Pb w V c A n x p) := Lib.hid (by rw [hV]; exact Pb.start hc h)
  have HL := Lib.hid (alarge_calls x p V S0.out.al hs)
  have HV0 : Hid (largeG c x = (largeB x || decide (60 < c.gs.length))) := Lib.hid rfl
  have hsm := hc.sm
  obtain ⟨m, hm⟩ : ∃ m, c.gs.length = m := ⟨_, rfl⟩
  rw [hm] at hsm HV0
  have HM := Lib.hid hm
  clear hc h hs hm
  go_enter Try.func8, Try.ntmps8
  go_upto_region 1 with (fail)
  rw [← hV]
  clear hV
  go_wp2_with (refine wpList_load_part rfl 31 (.tmp 3) rfl (w.heap.size + 1) 0 rfl (x.c p).toList _ S0.out.bt.bt0 Try.underlying31 rfl attr_size (x.v p) rfl ?_)
  refine HL.out.mono ?_
  rintro e w1 ⟨rfl, hb⟩
  have S1 := Lib.hid (S0.out.on hb)
  have yc2 := S1.out.cb.c2
  rw [HM.out] at yc2
  clear hb S0 HL
  generalize largeB x = t at *
  cases t
  case true =>
    go_wp2_with (fail)
    go_ret
    exact ⟨by rw [HV0.out]; rfl, S1.out.be⟩
  case false =>
    have HV : Hid (largeG c x = decide (60 < m)) := Lib.hid (by rw [HV0.out]; rfl)
    by_cases h6 : 60 < m
    · have d1 : decide ((60 : Int) < (m : Int)) = true := by rw [decide_eq_true_eq]; omega
      go_wp2_with (fail)
      go_ret
      exact ⟨by rw [HV.out, decide_eq_true h6]; rfl, S1.out.be⟩
    · have d1 : decide ((60 : Int) < (m : Int)) = false := by rw [decide_eq_false_iff_not]; omega
      go_wp2_with (fail)
      go_ret
      exact ⟨by rw [HV.out, decide_eq_false h6]; rfl, S1.out.be⟩
theorem largeG_no {c : Cr} {x : At} (h : largeG c x = false) : ASm x ∧ Ks x ∧ c.gs.length ≤ 60 := by
  unfold largeG at h
  rw [Bool.or_eq_false_iff, decide_eq_false_iff_not] at h
  obtain ⟨h1, h2⟩ := large_no h.1
  exact ⟨h1, fun k q hk => by have := (h2 k q hk).1; omega, by omega⟩
/-- The example. -/
abbrev sX : At := ⟨0, 1, 10, ⟨6, 4, 0, [⟨2, 7⟩], [⟨20, 4⟩], true, 4⟩, false, acZ, []⟩
theorem sX_sm : ASm sX := ⟨⟨by decide, by decide⟩, ⟨by decide, by decide⟩, by decide⟩
set_option maxRecDepth 100000 in
set_option maxHeartbeats 4000000 in
theorem sample_calls (w : World) : Calls Try.prog 20 #[] w fun e w' => ∃ p, e = .returned (sX.v p) ∧ ALies w' sX p ∧ Below w.heap.size w w' := by
  obtain ⟨b, hbx⟩ : ∃ b, w.heap.size = b := ⟨_, rfl⟩
  obtain ⟨W3, hW3⟩ : ∃ W3, W3 = ((w.alloc (.cells zAt 31)).alloc (.cells #[.int .u16 2, .int .u8 7] 43)).alloc (.cells #[.int .u16 20, .int .u8 4] 43) := ⟨_, rfl⟩
  have b1 : Below w.heap.size w (w.alloc (.cells zAt 31)) := (Below.refl _ _).alloc (Nat.le_refl _) _
  have b2 : Below (w.alloc (.cells zAt 31)).heap.size (w.alloc (.cells zAt 31)) W3 := by rw [hW3]; exact below_a2 (Below.refl _ _)
  have hb : Below w.heap.size w W3 := b1.trans (b2.mono b1.size)
  have hz : W3.heap[b]? = some (.cells zAt 31 (0, 0)) := by rw [← hbx]; exact (b2.block w.heap.size (by simp)).trans (heap_alloc_new w _)
  have h1 : W3.heap[b + 1]? = some (.cells #[.int .u16 2, .int .u8 7] 43 (0, 0)) := by
    rw [hW3, ← hbx]
    have q := heap_alloc_new (w.alloc (.cells zAt 31)) (.cells #[.int .u16 2, .int .u8 7] 43)
    rw [World.size_alloc] at q
    exact (((Below.refl _ _).alloc (Nat.le_refl _) _ : Below ((w.alloc (.cells zAt 31)).alloc (.cells #[.int .u16 2, .int .u8 7] 43)).heap.size _ _).block _ (by simp)).trans q
  have h2 : W3.heap[b + 2]? = some (.cells #[.int .u16 20, .int .u8 4] 43 (0, 0)) := by
    rw [hW3, ← hbx]
    have q := heap_alloc_new ((w.alloc (.cells zAt 31)).alloc (.cells #[.int .u16 2, .int .u8 7] 43)) (.cells #[.int .u16 20, .int .u8 4] 43)
    rwa [World.size_alloc, World.size_alloc] at q
  obtain ⟨p, hp⟩ : ∃ p : ALie, p = ⟨⟨some ⟨b + 1, 0, none⟩, 1, some ⟨b + 2, 0, none⟩, 1⟩, lieZ, none, 0⟩ := ⟨_, rfl⟩
  obtain ⟨C, hC⟩ : ∃ C, C = sX.c p := ⟨_, rfl⟩
  have hone : C.all (·.oneCell') = true := by rw [hC]; exact c_one sX p
  have hsz : (Try.prog.info? 31).map (·.size) = some C.size := by rw [hC]; exact c_size sX p
  have hold : (zAt : Array Value).size = C.size := by rw [hC]; rfl
  obtain ⟨W4, hW4⟩ : ∃ W4, W4 = W3.setRow b C := ⟨_, rfl⟩
  have hq : W4.heap[b]? = some (.cells C 31 (0, 0)) := by rw [hW4]; exact setRow_heap _ _ _ _ _ _ hz
  have hb4 : Below w.heap.size w W4 := by rw [hW4, hbx]; rw [hbx] at hb; exact below_setRow hb (Nat.le_refl _) _
  have h14 : W4.heap[b + 1]? = some (.cells #[.int .u16 2, .int .u8 7] 43 (0, 0)) := by rw [hW4, setRow_other W3 b (b + 1) _ (by omega)]; exact h1
  have h24 : W4.heap[b + 2]? = some (.cells #[.int .u16 20, .int .u8 4] 43 (0, 0)) := by rw [hW4, setRow_other W3 b (b + 2) _ (by omega)]; exact h2
  have HAL : Hid (ALies W4 sX p) := Lib.hid (by
    rw [hp]
    exact ⟨⟨cel_row h14 rfl, cel_row h24 rfl⟩, ⟨Cel.nil _ _, Cel.nil _ _⟩, Cel.nil _ _⟩)
  have HB4 := Lib.hid hb4
  have HQ := Lib.hid hq
  have HZ := Lib.hid hz
  have HC : Hid (C = #[.int .u8 0, .int .u16 1, .int .u16 10, .int .u8 6, .int .u8 4, .int .u8 0, .slice (some ⟨b + 1, 0, none⟩) 1 1, .slice (some ⟨b + 2, 0, none⟩) 1 1, .bool true, .int .u8 4, .bool false, .int .u8 0, .int .u8 0, .int .u8 0, .slice none 0 0, .slice none 0 0, .bool false, .int .u8 0, .slice none 0 0]) := Lib.hid (by rw [hC, hp]; rfl)
  have HV : Hid (sX.v p = .agg C) := Lib.hid (by rw [hC])
  have HSZ := Lib.hid hsz
  have HOLD := Lib.hid hold
  have HONE := Lib.hid hone
  clear b1 b2 hb hz h1 h2 hC hp hq hb4 h14 h24 hsz hold hone
  go_enter Try.func20, Try.ntmps20
  go_upto_region 1 with (fail)
  go_wp2_with (refine wpList_store_rowTo rfl 31 (.tmp 0) (.tmp 6) rfl rfl b C (by rfl) (by rw [HC.out]; rfl) 31 _ (by rw [← hW3]; exact HZ.out) HSZ.out HOLD.out HONE.out ?_; rw [← hW3, ← hW4])
  exact bodyPost_ret (results_cell_row rfl _ _ b 31 _ (0, 0) _ rfl HQ.out Try.underlying31 rfl HSZ.out) rfl ⟨p, by rw [HV.out], HAL.out, HB4.out⟩
end Go.Proofs.Ytejhodjbgablaaa
