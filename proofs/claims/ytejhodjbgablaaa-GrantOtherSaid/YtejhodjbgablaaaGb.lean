/- A process as a value; which groups it is in. -/
import Derived.Test.YtejhodjbgablaaaGa
set_option linter.unusedSimpArgs false
set_option linter.unusedVariables false
namespace Go.Proofs.Ytejhodjbgablaaa
open Go.RowKit
/-- Its cells, its value; its groups lie at A. -/
abbrev Cr.c (x : Cr) (A : Option Addr) (n : Nat) : Array Value := #[.int .u16 (x.ui : Nat), .int .u16 (x.gi : Nat), .slice A x.gs.length n, .bool x.hi]
abbrev Cr.v (x : Cr) (A : Option Addr) (n : Nat) : Value := .agg (x.c A n)
/-- Its row, in memory; not too long. -/
structure CLies (w : World) (x : Cr) (A : Option Addr) : Prop where
  gs : Cel w A (hv x.gs)
  sm : x.gs.length ≤ 9223372036854775807
theorem CLies.below {w w' : World} {x : Cr} {A : Option Addr} (h : CLies w x A) (hb : Below w.heap.size w w') : CLies w' x A := ⟨h.gs.below hb, h.sm⟩
/-- A block of a process. -/
def Cb (w : World) (b : Nat) (x : Cr) (A : Option Addr) (n : Nat) : Prop := w.heap[b]? = some (.cells (x.c A n) 25 (0, 0))
section
variable {w w' : World} {b : Nat} {x : Cr} {A : Option Addr} {n : Nat}
theorem Cb.new (w : World) (x : Cr) (A : Option Addr) (n : Nat) : Cb (w.alloc (.cells (x.c A n) 25)) w.heap.size x A n := heap_alloc_new w _
theorem Cb.lt (h : Cb w b x A n) : b < w.heap.size := lt_of_cells h
theorem Cb.on (h : Cb w b x A n) (hb : Below w.heap.size w w') : Cb w' b x A n := (hb.block b h.lt).trans h
theorem Cb.cell (h : Cb w b x A n) (k : Nat) : w.cell? ⟨b, k, none⟩ = (x.c A n)[k]? := by
  unfold Cb at h
  simp [World.cell?, h]
theorem Cb.frozen (h : Cb w b x A n) (k : Nat) : w.frozen? ⟨b, k, none⟩ = false := by
  unfold Cb at h
  simp [World.frozen?, h]
theorem Cb.c0 (h : Cb w b x A n) : w.cell? ⟨b, 0, none⟩ = some (.int .u16 (x.ui : Nat)) := h.cell 0
theorem Cb.c1 (h : Cb w b x A n) : w.cell? ⟨b, 1, none⟩ = some (.int .u16 (x.gi : Nat)) := h.cell 1
theorem Cb.c2 (h : Cb w b x A n) : w.cell? ⟨b, 2, none⟩ = some (.slice A x.gs.length n) := h.cell 2
theorem Cb.c3 (h : Cb w b x A n) : w.cell? ⟨b, 3, none⟩ = some (.bool x.hi) := h.cell 3
theorem Cb.all (h : Cb w b x A n) : ∀ j u, (x.c A n).toList[j]? = some u → w.cell? ⟨b, 0 + j, none⟩ = some u := fun j u hu => by
  rw [Nat.zero_add, h.cell]
  simpa using hu
end
theorem cred_size : (Try.prog.info? 25).map (·.size) = some 4 := by kernel_rfl
def chkN (x : Cr) : Int := if x.gs.length ≤ 4 then 0 else 622
theorem gcheck_calls (x : Cr) (A : Option Addr) (n : Nat) (w : World) (hs : x.gs.length ≤ 9223372036854775807) : Calls Try.prog 10 #[x.v A n] w fun e w' => e = .returned (.int .i64 (chkN x)) ∧ Below w.heap.size w w' := by
  have hb0 : Below w.heap.size w (w.alloc (.cells (x.c A n) 25)) := (Below.refl _ _).alloc (Nat.le_refl _) _
  have HB := Lib.hid hb0
  obtain ⟨ui, gi, gs, hi⟩ := x
  obtain ⟨m, hm⟩ : ∃ m, gs.length = m := ⟨_, rfl⟩
  simp only at hs
  have HV : Hid (chkN ⟨ui, gi, gs, hi⟩ = if m ≤ 4 then 0 else 622) := Lib.hid (by rw [← hm]; rfl)
  rw [hm] at hs
  show Calls _ _ #[.agg #[.int .u16 (ui : Nat), .int .u16 (gi : Nat), .slice A gs.length n, .bool hi]] _ _
  rw [hm]
  have HM := Lib.hid hm
  clear hm hb0
  by_cases h4 : m ≤ 4
  · have d1 : decide ((4 : Int) < (m : Int)) = false := by rw [decide_eq_false_iff_not]; omega
    go_enter Try.func10, Try.ntmps10
    go_wp2_with (fail)
    go_ret
    exact ⟨by rw [HV.out, if_pos h4]; rfl, by have q := HB.out; dsimp only [Cr.c] at q; rw [HM.out] at q; exact q⟩
  · have d1 : decide ((4 : Int) < (m : Int)) = true := by rw [decide_eq_true_eq]; omega
    go_enter Try.func10, Try.ntmps10
    go_wp2_with (fail)
    go_ret
    exact ⟨by rw [HV.out, if_neg h4]; rfl, by have q := HB.out; dsimp only [Cr.c] at q; rw [HM.out] at q; exact q⟩
set_option maxRecDepth 100000 in
theorem in_calls (x : Cr) (A : Option Addr) (n g : Nat) (w : World) (h : CLies w x A) : Calls Try.prog 11 #[x.v A n, .int .u16 (g : Nat)] w fun e w' => e = .returned (.bool (inB x g)) ∧ Below w.heap.size w w' := by
  obtain ⟨V, hV⟩ : ∃ V, V = w.alloc (.cells (x.c A n) 25) := ⟨_, rfl⟩
  have hb : Below w.heap.size w V := by rw [hV]; exact (Below.refl _ _).alloc (Nat.le_refl _) _
  have hz : Cb V w.heap.size x A n := by rw [hV]; exact Cb.new w x A n
  have HI := Lib.hid (contains_calls A x.gs n g V (h.gs.below hb) h.sm)
  have HZ := Lib.hid hz
  have HB := Lib.hid hb
  have HV0 : Hid (inB x g = (decide (x.gi = g) || x.gs.any (sameN g))) := Lib.hid rfl
  have y1 := hz.c1
  have y2 := hz.c2
  clear h hb hz
  generalize x.gi = gi at *
  by_cases hg : gi = g
  · have d1 : ((gi : Int) == (g : Int)) = true := by rw [hg]; exact beq_self_eq_true _
    have HV : Hid (inB x g = true) := Lib.hid (by rw [HV0.out, decide_eq_true hg]; rfl)
    clear hg
    go_enter Try.func11, Try.ntmps11
    go_upto_region 1 with (fail)
    rw [← hV]
    clear hV
    go_wp2_with (fail)
    go_ret
    exact ⟨by rw [HV.out]; rfl, HB.out⟩
  · have d1 : ((gi : Int) == (g : Int)) = false := by
      rw [beq_eq_false_iff_ne]
      intro e
      exact hg (Int.ofNat_inj.1 e)
    have HV : Hid (inB x g = x.gs.any (sameN g)) := Lib.hid (by rw [HV0.out, decide_eq_false hg]; rfl)
    clear hg
    go_enter Try.func11, Try.ntmps11
    go_upto_region 1 with (fail)
    rw [← hV]
    clear hV
    go_wp2_with (fail)
    refine HI.out.mono ?_
    rintro e w' ⟨rfl, rfl⟩
    go_wp2_with (fail)
    go_ret
    exact ⟨by rw [HV.out]; rfl, HB.out⟩
set_option maxRecDepth 100000 in
set_option maxHeartbeats 4000000 in
theorem rin_calls (x : Cr) (A : Option Addr) (n g : Nat) (w : World) (h : CLies w x A) : Calls Try.prog 12 #[x.v A n, .int .u16 (g : Nat)] w fun e w' => e = .returned (.bool (inB x g)) ∧ Below w.heap.size w w' := by
  obtain ⟨V, hV⟩ : ∃ V, V = w.alloc (.cells (x.c A n) 25) := ⟨_, rfl⟩
  have hb : Below w.heap.size w V := by rw [hV]; exact (Below.refl _ _).alloc (Nat.le_refl _) _
  have hz : Cb V w.heap.size x A n := by rw [hV]; exact Cb.new w x A n
  have HC := Lib.hid (h.gs.below hb)
  have HZ := Lib.hid hz
  have HB := Lib.hid hb
  have HV0 : Hid (inB x g = (decide (x.gi = g) || x.gs.any (sameN g))) := Lib.hid rfl
  obtain ⟨m, hm⟩ : ∃ m, x.gs.length = m := ⟨_, rfl⟩
  have hs : m ≤ 9223372036854775807 := by rw [← hm]; exact h.sm
  have y1 := hz.c1
  have y2 := hz.c2
  rw [hm] at y2
  have HM := Lib.hid hm
  clear h hb hz hm
  generalize x.gi = gi at *
  go_enter Try.func12, Try.ntmps12
  go_upto_region 1 with (fail)
  rw [← hV]
  clear hV
  go_wp2_with (fail)
  go_loopw [5] (fun i wr => ∃ k : Nat, i = .int .i64 k ∧ k ≤ m ∧ Hid (∀ (j : Nat) q, j < k → x.gs[j]? = some q → ¬ q = g) ∧ wr = V) (fun i _ => m - (intOf i).toNat)
  case atStart => exact ⟨0, rfl, by omega, Lib.hid (fun j q hj => absurd hj (Nat.not_lt_zero _)), rfl⟩
  case round =>
    obtain ⟨k, rfl, hk, hR, rfl⟩ := hrel
    by_cases hkn : k < m
    · obtain ⟨b, o, rfl, hlt, hcell⟩ := HC.out.at0 (by rw [hv_length, HM.out]; omega)
      obtain ⟨r, hp⟩ : ∃ r, x.gs[k]? = some r := ⟨_, List.getElem?_eq_getElem (by rw [HM.out]; exact hkn)⟩
      have e1 := hcell k _ (hv_get hp)
      have HP := Lib.hid hp
      clear hp hcell
      by_cases hrg : r = g
      · have d1 : ((r : Int) == (g : Int)) = true := by rw [hrg]; exact beq_self_eq_true _
        have HF : Hid (inB x g = true) := Lib.hid (by rw [HV0.out, List.any_eq_true.2 ⟨r, List.mem_of_getElem? HP.out, decide_eq_true hrg⟩, Bool.or_true])
        clear hrg
        go_wp2_with (fail)
        go_ret
        exact ⟨by rw [HF.out]; rfl, HB.out⟩
      · have d1 : ((r : Int) == (g : Int)) = false := by
          rw [beq_eq_false_iff_ne]
          intro e
          exact hrg (Int.ofNat_inj.1 e)
        have HR2 : Hid (∀ (j : Nat) q, j < k + 1 → x.gs[j]? = some q → ¬ q = g) := Lib.hid fun j q hj hq => by
          by_cases hh : j < k
          · exact hR.out j q hh hq
          · obtain rfl : j = k := by omega
            rw [HP.out] at hq
            cases hq
            exact hrg
        clear hrg
        go_wp2_with (fail)
        go_roundw
        case rel => exact ⟨k + 1, by go_num, by omega, HR2, trivial⟩
        case measure => simp [intOf]; omega
    · obtain rfl : k = m := by omega
      have HF : Hid (inB x g = ((gi : Int) == (g : Int))) := Lib.hid (by
        rw [HV0.out, List.any_eq_false.2 fun q hq => by
          obtain ⟨j, hj⟩ := List.getElem?_of_mem hq
          have := hR.out j q (by rw [← HM.out]; exact (List.getElem?_eq_some_iff.1 hj).1) hj
          unfold sameN
          simpa using this, Bool.or_false, Bool.eq_iff_iff, beq_iff_eq, decide_eq_true_eq]
        exact Int.ofNat_inj.symm)
      go_wp2_with (fail)
      go_ret
      exact ⟨by rw [HF.out]; rfl, HB.out⟩
set_option maxRecDepth 100000 in
/-- What the functions ask that are handed on: is it the process' own number? Is he in the group? -/
theorem off1_calls (b : Nat) (x : Cr) (A : Option Addr) (n i : Nat) (w : World) (h : Cb w b x A n) : Calls Try.prog 39 #[.int .u16 (i : Nat), .pointer (some ⟨b, 0, none⟩)] w fun e w' => e = .returned (.bool (decide (i = x.ui))) ∧ w' = w := by
  have y0 := h.c0
  generalize x.ui = u at *
  have HE : Hid (((i : Int) == (u : Int)) = decide (i = u)) := Lib.hid (by rw [Bool.eq_iff_iff, beq_iff_eq, decide_eq_true_eq]; exact Int.ofNat_inj)
  clear h
  go_enter Try.func39, Try.ntmps39
  go_wp2_with (fail)
  go_ret
  exact ⟨by rw [HE.out]; rfl, rfl⟩
set_option maxRecDepth 100000 in
theorem off2_calls (b : Nat) (x : Cr) (A : Option Addr) (n i : Nat) (w : World) (h : Cb w b x A n) (hl : CLies w x A) : Calls Try.prog 41 #[.int .u16 (i : Nat), .pointer (some ⟨b, 0, none⟩)] w fun e w' => e = .returned (.bool (inB x i)) ∧ Below w.heap.size w w' := by
  have HI := Lib.hid (in_calls x A n i w hl)
  go_enter Try.func41, Try.ntmps41
  go_wp2_with (refine wpList_load_part rfl 25 (.tmp 1) rfl b 0 rfl (x.c A n).toList _ h.all Try.underlying25 rfl cred_size (x.v A n) rfl ?_)
  refine HI.out.mono ?_
  rintro e w' ⟨rfl, hb⟩
  have HB := Lib.hid hb
  go_wp2_with (fail)
  go_ret
  exact ⟨rfl, HB.out⟩
theorem runs1_calls (i : Nat) (w : World) : Calls Try.prog 53 #[.int .u16 (i : Nat)] w fun e w' => e = .returned (.bool true) ∧ w' = w := by
  go_enter Try.func53, Try.ntmps53
  go_wp2_with (fail)
  go_ret
  exact ⟨rfl, rfl⟩
set_option maxRecDepth 100000 in
theorem may1_calls (b p q : Nat) (w : World) (hp : p < 256) (hq : q < 256) (h : w.cell? ⟨b, 0, none⟩ = some (.int .u8 (q : Nat))) : Calls Try.prog 25 #[.int .u8 (p : Nat), .pointer (some ⟨b, 0, none⟩)] w fun e w' => e = .returned (.bool (hasB p q)) ∧ w' = w := by
  have HI := Lib.hid (grants_calls p q w hp hq)
  go_enter Try.func25, Try.ntmps25
  go_wp2_with (fail)
  refine HI.out.mono ?_
  rintro e w' ⟨rfl, rfl⟩
  go_wp2_with (fail)
  go_ret
  exact ⟨rfl, rfl⟩
end Go.Proofs.Ytejhodjbgablaaa
