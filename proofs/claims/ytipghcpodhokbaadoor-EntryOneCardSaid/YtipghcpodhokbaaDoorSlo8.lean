/- The slots of a block, out of its words. -/
import Derived.Test.YtipghcpodhokbaaDoorSlo7
import Derived.Test.YtipghcpodhokbaaDoorErrT
import Derived.WalkMore
import Derived.Deep.LoopGhost
set_option linter.unusedSimpArgs false
set_option linter.unusedVariables false
namespace Go.Proofs.YtipghcpodhokbaaDoor
open Go.RowKit WordMath SumMath
theorem zL_cells : (slcs zL).toArray = #[.int .i64 0, .int .u8 0, .string ⟨#[]⟩, .int .i64 0, .int .u8 0, .string ⟨#[]⟩, .int .i64 0, .int .u8 0, .string ⟨#[]⟩, .int .i64 0, .int .u8 0, .string ⟨#[]⟩, .int .i64 0, .int .u8 0, .string ⟨#[]⟩, .int .i64 0, .int .u8 0, .string ⟨#[]⟩, .int .i64 0, .int .u8 0, .string ⟨#[]⟩, .int .i64 0, .int .u8 0, .string ⟨#[]⟩, .int .i64 0, .int .u8 0, .string ⟨#[]⟩, .int .i64 0, .int .u8 0, .string ⟨#[]⟩] := rfl
/-- What slotsOf hands back. -/
def slR (l : List Nat) (I : Int) : List Slt := if frst l I = none then (rdD l).L else zL
def slE (l : List Nat) (I : Int) : Value := match frst l I with
  | none => .nilIface
  | some k => misV (2 + (k : Int) * 3) 7 blockT
/-- The geometry; the result's array; the slots read so far; the fault. -/
structure So (w0 w : World) (P I B : Int) (L : List Slt) : Prop where
  on : On w0 w
  geo : Gb w w0.heap.size P I B
  res : Ar w (w0.heap.size + 1) zL
  arr : Ar w (w0.heap.size + 1 + 1) L
  flt : Ob w (w0.heap.size + 1 + 1 + 1) (.cells #[.int .i64 0, .int .i64 0] 54 (0, 0))
theorem So.on' {w0 w w' : World} {P I B : Int} {L : List Slt} (h : So w0 w P I B L) (hb : On w w') : So w0 w' P I B L :=
  ⟨h.on.trans hb, Ob.on h.geo hb, Ob.on h.res hb, Ob.on h.arr hb, Ob.on h.flt hb⟩
theorem Ob.setCell {w : World} {b : Nat} {o : Obj} (h : Ob w b o) (p : Addr) (v : Value) (hne : b ≠ p.block) : Ob (w.setCell p v) b o := (Below.heap_setCell w p v b hne).trans h
theorem So.set {w0 w : World} {P I B : Int} {L : List Slt} (h : So w0 w P I B L) (k : Nat) (hk : k < L.length) (x : Slt) :
    So w0 (((w.setCell ⟨w0.heap.size + 1 + 1, k * 3, none⟩ (.int .i64 x.I)).setCell ⟨w0.heap.size + 1 + 1, k * 3 + 1, none⟩ (.int .u8 x.K)).setCell ⟨w0.heap.size + 1 + 1, k * 3 + 2, none⟩ (.string x.S)) P I B (L.set k x) := by
  have hle : w0.heap.size ≤ w0.heap.size + 1 + 1 := by omega
  refine ⟨Below.setCell (Below.setCell (Below.setCell h.on hle _) hle _) hle _, ?_, ?_, h.arr.set k hk x, ?_⟩
  · exact ((Ob.setCell h.geo _ _ (by show w0.heap.size ≠ w0.heap.size + 1 + 1; omega)).setCell _ _ (by show w0.heap.size ≠ w0.heap.size + 1 + 1; omega)).setCell _ _ (by show w0.heap.size ≠ w0.heap.size + 1 + 1; omega)
  · exact ((Ob.setCell h.res _ _ (by show w0.heap.size + 1 ≠ w0.heap.size + 1 + 1; omega)).setCell _ _ (by show w0.heap.size + 1 ≠ w0.heap.size + 1 + 1; omega)).setCell _ _ (by show w0.heap.size + 1 ≠ w0.heap.size + 1 + 1; omega)
  · exact ((Ob.setCell h.flt _ _ (by show w0.heap.size + 1 + 1 + 1 ≠ w0.heap.size + 1 + 1; omega)).setCell _ _ (by show w0.heap.size + 1 + 1 + 1 ≠ w0.heap.size + 1 + 1; omega)).setCell _ _ (by show w0.heap.size + 1 + 1 + 1 ≠ w0.heap.size + 1 + 1; omega)
theorem So.new (w : World) (P I B : Int) : So w ((((w.alloc (.cells #[.int .i64 P, .int .i64 I, .int .i64 B] 28)).alloc (.cells #[.int .i64 0, .int .u8 0, .string ⟨#[]⟩, .int .i64 0, .int .u8 0, .string ⟨#[]⟩, .int .i64 0, .int .u8 0, .string ⟨#[]⟩, .int .i64 0, .int .u8 0, .string ⟨#[]⟩, .int .i64 0, .int .u8 0, .string ⟨#[]⟩, .int .i64 0, .int .u8 0, .string ⟨#[]⟩, .int .i64 0, .int .u8 0, .string ⟨#[]⟩, .int .i64 0, .int .u8 0, .string ⟨#[]⟩, .int .i64 0, .int .u8 0, .string ⟨#[]⟩, .int .i64 0, .int .u8 0, .string ⟨#[]⟩] 24)).alloc (.cells #[.int .i64 0, .int .u8 0, .string ⟨#[]⟩, .int .i64 0, .int .u8 0, .string ⟨#[]⟩, .int .i64 0, .int .u8 0, .string ⟨#[]⟩, .int .i64 0, .int .u8 0, .string ⟨#[]⟩, .int .i64 0, .int .u8 0, .string ⟨#[]⟩, .int .i64 0, .int .u8 0, .string ⟨#[]⟩, .int .i64 0, .int .u8 0, .string ⟨#[]⟩, .int .i64 0, .int .u8 0, .string ⟨#[]⟩, .int .i64 0, .int .u8 0, .string ⟨#[]⟩, .int .i64 0, .int .u8 0, .string ⟨#[]⟩] 24)).alloc (.cells #[.int .i64 0, .int .i64 0] 54)) P I B zL := by
  rw [← zL_cells]
  refine ⟨((on_two _ _ _).trans (on_alloc _ _)).trans (on_alloc _ _), (((Ob.new w _).alloc _).alloc _).alloc _, ?_, ?_, ?_⟩
  · have h := Ob.new (w.alloc (.cells #[.int .i64 P, .int .i64 I, .int .i64 B] 28)) (.cells (slcs zL).toArray 24)
    rw [World.size_alloc] at h
    exact (h.alloc _).alloc _
  · have h := Ob.new ((w.alloc (.cells #[.int .i64 P, .int .i64 I, .int .i64 B] 28)).alloc (.cells (slcs zL).toArray 24)) (.cells (slcs zL).toArray 24)
    rw [World.size_alloc, World.size_alloc] at h
    exact h.alloc _
  · have h := Ob.new (((w.alloc (.cells #[.int .i64 P, .int .i64 I, .int .i64 B] 28)).alloc (.cells (slcs zL).toArray 24)).alloc (.cells (slcs zL).toArray 24)) (.cells #[.int .i64 0, .int .i64 0] 54)
    rw [World.size_alloc, World.size_alloc, World.size_alloc] at h
    exact h
set_option maxRecDepth 100000 in
set_option maxHeartbeats 4000000 in
theorem slots_go (b off c : Nat) (l : List Nat) (P I B : Int) (w : World) (hg : GOK P I B) (hr : Row w (some ⟨b, off, none⟩) l) (h32 : l.length = 32) (hl : Wd l) (hcap : 32 ≤ c) (hT : TabAt w) (hE : ErrAt w) (R : List Slt) (hR : slR l I = R) (V : Value) (hV : slE l I = V) :
    Calls Tryd.prog 40 #[.slice (some ⟨b, off, none⟩) 32 c, gv P I B] w fun e w' => e = .returned (.tuple #[slv R, V]) ∧ On w w' := by
  have S0 := Lib.hid (So.new w P I B)
  have HR := Lib.hid hR
  have HV := Lib.hid hV
  have HT := Lib.hid hT
  have HE := Lib.hid hE
  have HG := Lib.hid hg
  have HRW := Lib.hid hr
  have H32 := Lib.hid h32
  have HL := Lib.hid hl
  clear hR hV hT hE hg hr h32 hl
  go_enter Tryd.func40, Tryd.ntmps40
  go_wp2_with (fail)
  go_step3
  go_wp2_with (fail)
  go_step3
  go_upto_region 3 with (fail)
  generalize (((w.alloc (.cells #[.int .i64 P, .int .i64 I, .int .i64 B] 28)).alloc (.cells #[.int .i64 0, .int .u8 0, .string ⟨#[]⟩, .int .i64 0, .int .u8 0, .string ⟨#[]⟩, .int .i64 0, .int .u8 0, .string ⟨#[]⟩, .int .i64 0, .int .u8 0, .string ⟨#[]⟩, .int .i64 0, .int .u8 0, .string ⟨#[]⟩, .int .i64 0, .int .u8 0, .string ⟨#[]⟩, .int .i64 0, .int .u8 0, .string ⟨#[]⟩, .int .i64 0, .int .u8 0, .string ⟨#[]⟩, .int .i64 0, .int .u8 0, .string ⟨#[]⟩, .int .i64 0, .int .u8 0, .string ⟨#[]⟩] 24)).alloc (.cells #[.int .i64 0, .int .u8 0, .string ⟨#[]⟩, .int .i64 0, .int .u8 0, .string ⟨#[]⟩, .int .i64 0, .int .u8 0, .string ⟨#[]⟩, .int .i64 0, .int .u8 0, .string ⟨#[]⟩, .int .i64 0, .int .u8 0, .string ⟨#[]⟩, .int .i64 0, .int .u8 0, .string ⟨#[]⟩, .int .i64 0, .int .u8 0, .string ⟨#[]⟩, .int .i64 0, .int .u8 0, .string ⟨#[]⟩, .int .i64 0, .int .u8 0, .string ⟨#[]⟩, .int .i64 0, .int .u8 0, .string ⟨#[]⟩] 24)).alloc (.cells #[.int .i64 0, .int .i64 0] 54) = W at *
  go_wp2_with (fail)
  go_loopw [15] (fun i wr => ∃ k : Nat, i = .int .i64 k ∧ k ≤ 10 ∧ Hid (∀ j, j < k → decOk (rowK l j) I = true) ∧ So w wr P I B (partL l k)) (fun i _ => 10 - (intOf i).toNat)
  case atStart => exact ⟨0, rfl, by decide, Lib.hid (fun j hj => absurd hj (Nat.not_lt_zero _)), by rw [partL_zero]; exact S0.out⟩
  case round =>
    obtain ⟨k, rfl, hk, hok, hso⟩ := hrel
    have HS := Lib.hid hso
    clear hso S0
    by_cases hk2 : k < 10
    · have hrow : Row wr (some ⟨b, off + (2 + k * 3), none⟩) (rowK l k) := fun _ => by
        obtain ⟨ad, e, hlt, hcs⟩ := HRW.out.below HS.out.on (by rw [H32.out]; decide)
        injection e with e
        subst e
        have hcs2 : ∀ j, j < 32 → wr.cell? ⟨b, off + j, none⟩ = some (.int .u64 ((l.getD j 0 : Nat) : Int)) := fun j hj => by
          have h := hcs j (by rw [H32.out]; exact hj)
          rwa [Addr.add_mid] at h
        refine ⟨_, rfl, hlt, fun j hj => ?_⟩
        rw [rowK_length l k H32.out hk2] at hj
        rw [Addr.add_mid, Nat.add_assoc, rowK_get l k j hj]
        exact hcs2 _ (by omega)
      have hwd := rowK_wd HL.out k
      have hle := rowK_length l k H32.out hk2
      obtain ⟨r0, r1, r2, hr⟩ := list3 hle
      have hcap2 : 3 ≤ c - (2 + k * 3) := by omega
      go_upto_region 8 with (fail)
      rw [show 2 + k * 3 + 3 - (2 + k * 3) = 3 by omega]
      have hdc := fun W (hW : On wr W) => dec_calls (some ⟨b, off + (2 + k * 3), none⟩) (rowK l k) (c - (2 + k * 3)) P I B W (hrow.below hW) hwd (by rw [hle]; exact hcap2) (HT.out.below (HS.out.on.trans hW))
      rw [hle] at hdc
      have hbad : decBad (rowK l k) P I B = if decOk (rowK l k) I = true then none else some 7 := by unfold decBad; rw [if_neg (by simpa using HG.out)]
      obtain ⟨x, hx⟩ : ∃ x, rdS (rowK l k) = x := ⟨_, rfl⟩
      have HX := Lib.hid hx
      have HROW0 := Lib.hid hr
      have cs := hrow (by rw [hle]; decide)
      obtain ⟨ad, e, hlt, hcs⟩ := cs
      injection e with e
      subst e
      rw [hr] at hcs
      generalize off + (2 + k * 3) = o at *
      generalize c - (2 + k * 3) = cc at *
      have c0 : wr.cell? ⟨b, o, none⟩ = some (.int .u64 (r0 : Nat)) := by have h := hcs 0 (by simp); rwa [Addr.add_mid] at h
      have c1 : wr.cell? ⟨b, o + 1, none⟩ = some (.int .u64 (r1 : Nat)) := by have h := hcs 1 (by simp); rwa [Addr.add_mid] at h
      have c2 : wr.cell? ⟨b, o + 2, none⟩ = some (.int .u64 (r2 : Nat)) := by have h := hcs 2 (by simp); rwa [Addr.add_mid] at h
      obtain ⟨g0, g1, g2⟩ := Gb.cells HS.out.geo
      have hlg := Ob.lt HS.out.geo
      cases hd : decOk (rowK l k) I with
      | true =>
        rw [if_pos hd] at hbad
        have hv : decV (rowK l k) P I B = x := by unfold decV; rw [if_pos hbad, hx]
        rw [hbad, hv] at hdc
        have HD := Lib.hid hdc
        have hok2 := Lib.hid (show ∀ j, j < k + 1 → decOk (rowK l j) I = true from fun j hj => by
          by_cases h : j < k
          · exact hok.out j h
          · obtain rfl : j = k := by omega
            exact hd)
        clear hdc hbad hv hx hd hr hrow hwd hle hcap2 hlt hcs hok
        by_cases z0 : r0 = 0
        · by_cases z1 : r1 = 0
          · by_cases z2 : r2 = 0
            · subst z0 z1 z2
              have HROW := HROW0
              go_wp2_with (fail)
              refine wp_loop_rounds 4 ?_
              rw [rounds_succ]
              go_wp2_with (fail)
              rw [rounds_succ]
              go_wp2_with (fail)
              rw [rounds_succ]
              go_wp2_with (fail)
              rw [rounds_succ]
              go_wp2_with (fail)
              go_roundw
              case rel =>
                refine ⟨k + 1, by go_num, by omega, hok2, ?_⟩
                rw [partL_same l k (by rw [HX.out]; exact (row_zero (I := I) HROW.out).1 ▸ HX.out ▸ rfl)]
                exact HS.out
              case measure => simp [intOf]; omega
            · subst z0 z1
              have hz2 : ((r2 : Int) == 0) = false := by rw [beq_eq_false_iff_ne]; omega
              go_wp2_with (fail)
              refine wp_loop_rounds 4 ?_
              rw [rounds_succ]
              go_wp2_with (fail)
              rw [rounds_succ]
              go_wp2_with (fail)
              rw [rounds_succ]
              go_wp2_with (fail)
              refine (HD.out _ (On.refl _)).mono ?_
              rintro e wb ⟨rfl, hb⟩
              have S1 := HS.out.on' hb
              have S2 := S1.on' (on_alloc wb (.cells #[.int .i64 x.I, .int .u8 x.K, .string x.S] 23))
              have hs1 : Sb (wb.alloc (.cells #[.int .i64 x.I, .int .u8 x.K, .string x.S] 23)) wb.heap.size x := Ob.new _ _
              have HS2 := Lib.hid S2
              have HB1 := Lib.hid hs1
              clear S1 S2 hs1 HS hb c0 c1 c2 g0 g1 g2 hlg HD
              go_upto_region 13 with (fail)
              generalize wb.alloc (.cells #[.int .i64 x.I, .int .u8 x.K, .string x.S] 23) = wa at *
              go_wp2_with (fail)
              refine (as_nil _ _).mono ?_
              rintro e wz ⟨rfl, rfl⟩
              obtain ⟨x0, x1, x2⟩ := Sb.cells HB1.out
              obtain ⟨y0, y1, y2⟩ := Ar.cells HS2.out.arr k (by rw [partL_length]; exact hk2)
              have fz := Ar.frozen HS2.out.arr
              have l1 := Ob.lt HB1.out
              have l2 := Ob.lt HS2.out.arr
              go_wp2_with (fail)
              go_roundw
              case rel =>
                refine ⟨k + 1, by go_num, by omega, hok2, ?_⟩
                rw [← partL_succ l k hk2, HX.out]
                exact HS2.out.set k (by rw [partL_length]; exact hk2) x
              case measure => simp [intOf]; omega
          · subst z0
            have hz1 : ((r1 : Int) == 0) = false := by rw [beq_eq_false_iff_ne]; omega
            go_wp2_with (fail)
            refine wp_loop_rounds 4 ?_
            rw [rounds_succ]
            go_wp2_with (fail)
            rw [rounds_succ]
            go_wp2_with (fail)
            refine (HD.out _ (On.refl _)).mono ?_
            rintro e wb ⟨rfl, hb⟩
            have S1 := HS.out.on' hb
            have S2 := S1.on' (on_alloc wb (.cells #[.int .i64 x.I, .int .u8 x.K, .string x.S] 23))
            have hs1 : Sb (wb.alloc (.cells #[.int .i64 x.I, .int .u8 x.K, .string x.S] 23)) wb.heap.size x := Ob.new _ _
            have HS2 := Lib.hid S2
            have HB1 := Lib.hid hs1
            clear S1 S2 hs1 HS hb c0 c1 c2 g0 g1 g2 hlg HD
            go_upto_region 13 with (fail)
            generalize wb.alloc (.cells #[.int .i64 x.I, .int .u8 x.K, .string x.S] 23) = wa at *
            go_wp2_with (fail)
            refine (as_nil _ _).mono ?_
            rintro e wz ⟨rfl, rfl⟩
            obtain ⟨x0, x1, x2⟩ := Sb.cells HB1.out
            obtain ⟨y0, y1, y2⟩ := Ar.cells HS2.out.arr k (by rw [partL_length]; exact hk2)
            have fz := Ar.frozen HS2.out.arr
            have l1 := Ob.lt HB1.out
            have l2 := Ob.lt HS2.out.arr
            go_wp2_with (fail)
            go_roundw
            case rel =>
              refine ⟨k + 1, by go_num, by omega, hok2, ?_⟩
              rw [← partL_succ l k hk2, HX.out]
              exact HS2.out.set k (by rw [partL_length]; exact hk2) x
            case measure => simp [intOf]; omega
        · have hz0 : ((r0 : Int) == 0) = false := by rw [beq_eq_false_iff_ne]; omega
          go_wp2_with (fail)
          refine wp_loop_rounds 4 ?_
          rw [rounds_succ]
          go_wp2_with (fail)
          refine (HD.out _ (On.refl _)).mono ?_
          rintro e wb ⟨rfl, hb⟩
          have S1 := HS.out.on' hb
          have S2 := S1.on' (on_alloc wb (.cells #[.int .i64 x.I, .int .u8 x.K, .string x.S] 23))
          have hs1 : Sb (wb.alloc (.cells #[.int .i64 x.I, .int .u8 x.K, .string x.S] 23)) wb.heap.size x := Ob.new _ _
          have HS2 := Lib.hid S2
          have HB1 := Lib.hid hs1
          clear S1 S2 hs1 HS hb c0 c1 c2 g0 g1 g2 hlg HD
          go_upto_region 13 with (fail)
          generalize wb.alloc (.cells #[.int .i64 x.I, .int .u8 x.K, .string x.S] 23) = wa at *
          go_wp2_with (fail)
          refine (as_nil _ _).mono ?_
          rintro e wz ⟨rfl, rfl⟩
          obtain ⟨x0, x1, x2⟩ := Sb.cells HB1.out
          obtain ⟨y0, y1, y2⟩ := Ar.cells HS2.out.arr k (by rw [partL_length]; exact hk2)
          have fz := Ar.frozen HS2.out.arr
          have l1 := Ob.lt HB1.out
          have l2 := Ob.lt HS2.out.arr
          go_wp2_with (fail)
          go_roundw
          case rel =>
            refine ⟨k + 1, by go_num, by omega, hok2, ?_⟩
            rw [← partL_succ l k hk2, HX.out]
            exact HS2.out.set k (by rw [partL_length]; exact hk2) x
          case measure => simp [intOf]; omega
      | false =>
        have hzz : ¬ [r0, r1, r2] = [0, 0, 0] := fun h => by
          rw [hr, (row_zero (I := I) h).2] at hd
          cases hd
        rw [if_neg (by rw [hd]; decide)] at hbad
        have hv : decV (rowK l k) P I B = zS := by unfold decV; rw [hbad]; rfl
        rw [hbad, hv] at hdc
        have hdc : ∀ W, On wr W → Calls Tryd.prog 21 #[.slice (some ⟨b, o, none⟩) 3 cc, gv P I B] W fun e w' => e = .returned (.tuple #[.agg #[.int .i64 0, .int .u8 0, .string ⟨#[]⟩], misV 0 7 slotT]) ∧ On W w' := hdc
        have HD := Lib.hid hdc
        have hfr := frst_some hk2 hok.out hd
        have hR2 : R = zL := by rw [← HR.out]; unfold slR; rw [hfr]; rfl
        have hV2 : V = misV (2 + (k : Int) * 3) 7 blockT := by rw [← HV.out]; unfold slE; rw [hfr]
        subst hR2 hV2
        clear hdc hbad hv hx hd hr hrow hwd hle hcap2 hlt hcs hok HR HV hfr
        by_cases z0 : r0 = 0
        · by_cases z1 : r1 = 0
          · by_cases z2 : r2 = 0
            · exact absurd (by rw [z0, z1, z2]) hzz
            · clear hzz
              subst z0 z1
              have hz2 : ((r2 : Int) == 0) = false := by rw [beq_eq_false_iff_ne]; omega
              go_wp2_with (fail)
              refine wp_loop_rounds 4 ?_
              rw [rounds_succ]
              go_wp2_with (fail)
              rw [rounds_succ]
              go_wp2_with (fail)
              rw [rounds_succ]
              go_wp2_with (fail)
              refine (HD.out _ (On.refl _)).mono ?_
              rintro e wb ⟨rfl, hb⟩
              have S1 := HS.out.on' hb
              have S2 := S1.on' (on_alloc wb (.cells #[.int .i64 0, .int .u8 0, .string ⟨#[]⟩] 23))
              have HS2 := Lib.hid S2
              clear S1 S2 HS hb c0 c1 c2 g0 g1 g2 hlg HD
              go_upto_region 13 with (fail)
              generalize wb.alloc (.cells #[.int .i64 0, .int .u8 0, .string ⟨#[]⟩] 23) = wa at *
              go_wp2_with (fail)
              refine (as_MF 0 7 slotT (.int .i64 0) (.int .i64 0) 54 (w.heap.size + 1 + 1 + 1) _ (HE.out.below HS2.out.on) HS2.out.flt).mono ?_
              rintro e wc ⟨rfl, hb2, hf⟩
              have hres : Ar wc (w.heap.size + 1) zL := Ob.below HS2.out.res hb2 (by omega)
              have hon : On w wc := Below.trans HS2.out.on (hb2.mono (by omega))
              have f0 := cell_of_row wc (w.heap.size + 1 + 1 + 1) 0 _ _ (0, 0) hf
              have f1 := cell_of_row wc (w.heap.size + 1 + 1 + 1) 1 _ _ (0, 0) hf
              replace f0 : wc.cell? ⟨w.heap.size + 1 + 1 + 1, 0, none⟩ = some (.int .i64 0) := f0
              replace f1 : wc.cell? ⟨w.heap.size + 1 + 1 + 1, 1, none⟩ = some (.int .i64 7) := f1
              have hlf := lt_of_cells hf
              have HRES := Lib.hid hres
              have HON := Lib.hid hon
              clear hb2 hf hres hon HS2
              go_upto_region 14 with (fail)
              go_wp2_with (first
                | (go_at_call 38; refine (noBlock_calls _ _ _).mono ?_; rintro e wy ⟨rfl, rfl⟩)
                | (refine wpList_store_row rfl 24 (.tmp 4) (.tmp 43) rfl (w.heap.size + 1) (slcs zL).toArray rfl rfl 24 _ HRES.out (by kernel_rfl) rfl (slcs_all _) ?_))
              have q8 : Ar (wc.setRow (w.heap.size + 1) (slcs zL).toArray) (w.heap.size + 1) zL := setRow_heap wc (w.heap.size + 1) _ (slcs zL).toArray 24 (0, 0) HRES.out
              have q9 : On w (wc.setRow (w.heap.size + 1) (slcs zL).toArray) := below_setRow HON.out (show w.heap.size ≤ w.heap.size + 1 by omega) _
              try rw [Exit.noGoto_ret]
              exact bodyPost_ret (results_row_tmp rfl _ _ (w.heap.size + 1) (slcs zL).toArray (misV (2 + (k : Int) * 3) 7 blockT) rfl rfl (run_loadVar_row (P := Tryd.prog) _ (w.heap.size + 1) 24 24 _ (0, 0) _ q8 Tryd.underlying24 rfl (by kernel_rfl))) rfl ⟨rfl, q9⟩
          · clear hzz
            subst z0
            have hz1 : ((r1 : Int) == 0) = false := by rw [beq_eq_false_iff_ne]; omega
            go_wp2_with (fail)
            refine wp_loop_rounds 4 ?_
            rw [rounds_succ]
            go_wp2_with (fail)
            rw [rounds_succ]
            go_wp2_with (fail)
            refine (HD.out _ (On.refl _)).mono ?_
            rintro e wb ⟨rfl, hb⟩
            have S1 := HS.out.on' hb
            have S2 := S1.on' (on_alloc wb (.cells #[.int .i64 0, .int .u8 0, .string ⟨#[]⟩] 23))
            have HS2 := Lib.hid S2
            clear S1 S2 HS hb c0 c1 c2 g0 g1 g2 hlg HD
            go_upto_region 13 with (fail)
            generalize wb.alloc (.cells #[.int .i64 0, .int .u8 0, .string ⟨#[]⟩] 23) = wa at *
            go_wp2_with (fail)
            refine (as_MF 0 7 slotT (.int .i64 0) (.int .i64 0) 54 (w.heap.size + 1 + 1 + 1) _ (HE.out.below HS2.out.on) HS2.out.flt).mono ?_
            rintro e wc ⟨rfl, hb2, hf⟩
            have hres : Ar wc (w.heap.size + 1) zL := Ob.below HS2.out.res hb2 (by omega)
            have hon : On w wc := Below.trans HS2.out.on (hb2.mono (by omega))
            have f0 := cell_of_row wc (w.heap.size + 1 + 1 + 1) 0 _ _ (0, 0) hf
            have f1 := cell_of_row wc (w.heap.size + 1 + 1 + 1) 1 _ _ (0, 0) hf
            replace f0 : wc.cell? ⟨w.heap.size + 1 + 1 + 1, 0, none⟩ = some (.int .i64 0) := f0
            replace f1 : wc.cell? ⟨w.heap.size + 1 + 1 + 1, 1, none⟩ = some (.int .i64 7) := f1
            have hlf := lt_of_cells hf
            have HRES := Lib.hid hres
            have HON := Lib.hid hon
            clear hb2 hf hres hon HS2
            go_upto_region 14 with (fail)
            go_wp2_with (first
              | (go_at_call 38; refine (noBlock_calls _ _ _).mono ?_; rintro e wy ⟨rfl, rfl⟩)
              | (refine wpList_store_row rfl 24 (.tmp 4) (.tmp 43) rfl (w.heap.size + 1) (slcs zL).toArray rfl rfl 24 _ HRES.out (by kernel_rfl) rfl (slcs_all _) ?_))
            have q8 : Ar (wc.setRow (w.heap.size + 1) (slcs zL).toArray) (w.heap.size + 1) zL := setRow_heap wc (w.heap.size + 1) _ (slcs zL).toArray 24 (0, 0) HRES.out
            have q9 : On w (wc.setRow (w.heap.size + 1) (slcs zL).toArray) := below_setRow HON.out (show w.heap.size ≤ w.heap.size + 1 by omega) _
            try rw [Exit.noGoto_ret]
            exact bodyPost_ret (results_row_tmp rfl _ _ (w.heap.size + 1) (slcs zL).toArray (misV (2 + (k : Int) * 3) 7 blockT) rfl rfl (run_loadVar_row (P := Tryd.prog) _ (w.heap.size + 1) 24 24 _ (0, 0) _ q8 Tryd.underlying24 rfl (by kernel_rfl))) rfl ⟨rfl, q9⟩
        · clear hzz
          have hz0 : ((r0 : Int) == 0) = false := by rw [beq_eq_false_iff_ne]; omega
          go_wp2_with (fail)
          refine wp_loop_rounds 4 ?_
          rw [rounds_succ]
          go_wp2_with (fail)
          refine (HD.out _ (On.refl _)).mono ?_
          rintro e wb ⟨rfl, hb⟩
          have S1 := HS.out.on' hb
          have S2 := S1.on' (on_alloc wb (.cells #[.int .i64 0, .int .u8 0, .string ⟨#[]⟩] 23))
          have HS2 := Lib.hid S2
          clear S1 S2 HS hb c0 c1 c2 g0 g1 g2 hlg HD
          go_upto_region 13 with (fail)
          generalize wb.alloc (.cells #[.int .i64 0, .int .u8 0, .string ⟨#[]⟩] 23) = wa at *
          go_wp2_with (fail)
          refine (as_MF 0 7 slotT (.int .i64 0) (.int .i64 0) 54 (w.heap.size + 1 + 1 + 1) _ (HE.out.below HS2.out.on) HS2.out.flt).mono ?_
          rintro e wc ⟨rfl, hb2, hf⟩
          have hres : Ar wc (w.heap.size + 1) zL := Ob.below HS2.out.res hb2 (by omega)
          have hon : On w wc := Below.trans HS2.out.on (hb2.mono (by omega))
          have f0 := cell_of_row wc (w.heap.size + 1 + 1 + 1) 0 _ _ (0, 0) hf
          have f1 := cell_of_row wc (w.heap.size + 1 + 1 + 1) 1 _ _ (0, 0) hf
          replace f0 : wc.cell? ⟨w.heap.size + 1 + 1 + 1, 0, none⟩ = some (.int .i64 0) := f0
          replace f1 : wc.cell? ⟨w.heap.size + 1 + 1 + 1, 1, none⟩ = some (.int .i64 7) := f1
          have hlf := lt_of_cells hf
          have HRES := Lib.hid hres
          have HON := Lib.hid hon
          clear hb2 hf hres hon HS2
          go_upto_region 14 with (fail)
          go_wp2_with (first
            | (go_at_call 38; refine (noBlock_calls _ _ _).mono ?_; rintro e wy ⟨rfl, rfl⟩)
            | (refine wpList_store_row rfl 24 (.tmp 4) (.tmp 43) rfl (w.heap.size + 1) (slcs zL).toArray rfl rfl 24 _ HRES.out (by kernel_rfl) rfl (slcs_all _) ?_))
          have q8 : Ar (wc.setRow (w.heap.size + 1) (slcs zL).toArray) (w.heap.size + 1) zL := setRow_heap wc (w.heap.size + 1) _ (slcs zL).toArray 24 (0, 0) HRES.out
          have q9 : On w (wc.setRow (w.heap.size + 1) (slcs zL).toArray) := below_setRow HON.out (show w.heap.size ≤ w.heap.size + 1 by omega) _
          try rw [Exit.noGoto_ret]
          exact bodyPost_ret (results_row_tmp rfl _ _ (w.heap.size + 1) (slcs zL).toArray (misV (2 + (k : Int) * 3) 7 blockT) rfl rfl (run_loadVar_row (P := Tryd.prog) _ (w.heap.size + 1) 24 24 _ (0, 0) _ q8 Tryd.underlying24 rfl (by kernel_rfl))) rfl ⟨rfl, q9⟩
    · obtain rfl : k = 10 := by omega
      have hfr := frst_none hok.out
      have hR2 : R = partL l 10 := by rw [← HR.out]; unfold slR; rw [if_pos hfr, partL_all]
      have hV2 : V = .nilIface := by rw [← HV.out]; unfold slE; rw [hfr]
      subst hR2 hV2
      have hsz := slcs_size (partL_length l 10)
      have HSZ := Lib.hid hsz
      clear HR HV hfr hok hsz
      go_upto_region 18 with (fail)
      go_wp2_with (first
        | (refine wpList_load_row rfl 24 (.tmp 6) rfl (w.heap.size + 1 + 1) rfl 24 (slcs (partL l 10)).toArray (0, 0) _ HS.out.arr Tryd.underlying24 rfl (by rw [HSZ.out]; kernel_rfl) ?_)
        | (refine wpList_store_row rfl 24 (.tmp 4) (.tmp 56) rfl (w.heap.size + 1) (slcs (partL l 10)).toArray rfl rfl 24 _ HS.out.res (by rw [HSZ.out]; kernel_rfl) (by rw [HSZ.out]; rfl) (slcs_all _) ?_))
      have q8 : Ar (wr.setRow (w.heap.size + 1) (slcs (partL l 10)).toArray) (w.heap.size + 1) (partL l 10) := setRow_heap wr (w.heap.size + 1) _ (slcs (partL l 10)).toArray 24 (0, 0) HS.out.res
      have q9 : On w (wr.setRow (w.heap.size + 1) (slcs (partL l 10)).toArray) := below_setRow HS.out.on (show w.heap.size ≤ w.heap.size + 1 by omega) _
      try rw [Exit.noGoto_ret]
      exact bodyPost_ret (results_row_tmp rfl _ _ (w.heap.size + 1) (slcs (partL l 10)).toArray .nilIface rfl rfl (run_loadVar_row (P := Tryd.prog) _ (w.heap.size + 1) 24 24 _ (0, 0) _ q8 Tryd.underlying24 rfl (by rw [HSZ.out]; kernel_rfl))) rfl ⟨rfl, q9⟩
end Go.Proofs.YtipghcpodhokbaaDoor
