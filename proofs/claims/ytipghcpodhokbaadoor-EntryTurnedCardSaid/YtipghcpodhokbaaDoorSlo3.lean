/- The words of a slot, as entry writes them. -/
import Derived.Test.YtipghcpodhokbaaDoorSlo2
import Derived.Deep.DeepCutAuto
set_option linter.unusedSimpArgs false
set_option linter.unusedVariables false
namespace Go.Proofs.YtipghcpodhokbaaDoor
open Go.RowKit WordMath SumMath
theorem pack_fill (s : ByteArray) (h1 : 1 ≤ s.size) (h2 : s.size ≤ 16) : packL s.data.toList ++ [0, 0, 0].drop (packL s.data.toList).length = [pw s 0, pw s 1, 0] ∧ 0 < (packL s.data.toList).length ∧ (packL s.data.toList).length ≤ 2 := by
  have hl : (packL s.data.toList).length = wn s.size := by
    unfold packL; rw [packTo_len]; simp
  have hw : wn s.size = 1 ∨ wn s.size = 2 := by unfold wn; omega
  unfold pw
  generalize packL s.data.toList = l at *
  match l, hl with
  | [], hl => simp at hl; omega
  | [a], _ => simp
  | [a, b], _ => simp
  | a :: b :: c :: r, hl => simp at hl; omega
theorem Blk.cells3 {e : TypeId} {W : World} {g : Nat} {z0 z1 z2 : Nat} (h : Blk e W g [z0, z1, z2]) :
    W.cell? ⟨g, 0, none⟩ = some (.int .u64 (z0 : Nat)) ∧ W.cell? ⟨g, 1, none⟩ = some (.int .u64 (z1 : Nat)) ∧ W.cell? ⟨g, 2, none⟩ = some (.int .u64 (z2 : Nat)) :=
  ⟨h.cell 0 (by simp), h.cell 1 (by simp), h.cell 2 (by simp)⟩
theorem put_slot1 (i : Nat) : put 0 0 8 i = i := by unfold put; simp
theorem put_slot2 (i k : Nat) (h : i < 256) : put i 8 8 k = i + 256 * k := by unfold put; simp; omega
theorem put_slot3 (i k n : Nat) (h : i < 256) (h2 : k < 256) : put (i + 256 * k) 16 8 n = i + 256 * k + 65536 * n := by unfold put; simp; omega
theorem put_slot4 (t c : Nat) (h : t < 4294967296) : put t 32 32 c = t + 4294967296 * c := by unfold put; simp; omega
/-- An image's block. -/
abbrev Im (w : World) (g : Nat) (l : List Nat) : Prop := Blk 68 w g l
theorem Im.new (w : World) : Im (w.alloc (.cells #[.int .u64 0, .int .u64 0, .int .u64 0] 68)) w.heap.size [0, 0, 0] := heap_alloc_new w _
section
variable {T : World → World → Prop} {R : Value → World → Prop} {o : Oper} {a : Act} {w : World}
theorem stp_sliceA (hT : T w w) (x : Operand) (ho : o.op = .slice 68 x none (some (.const (.int .i64 2))) none) (g : Nat) (h1 : a.eval x = .pointer (some ⟨g, 0, none⟩)) (hR : R (.slice (some ⟨g, 0, none⟩) 2 3) w) : StepOK Tryd.prog T o a w R := by
  refine StepOK.run (.slice (some ⟨g, 0, none⟩) 2 3) ?_ hR hT
  have e0 : a.eval (.const (.int .i64 2)) = .int .i64 2 := rfl
  unfold execOp
  rw [ho]
  simp only [Option.map_some, Option.map_none, h1, e0]
  simp [go_sem]
theorem stp_loadStr (hT : T w w) (x : Operand) (ho : o.op = .load 9 x) (p : Addr) (v : Value) (h1 : a.eval x = .pointer (some p)) (hc : w.cell? p = some v) (hR : R v w) : StepOK Tryd.prog T o a w R := by
  refine StepOK.run v ?_ hR hT
  unfold execOp
  rw [ho]
  simp only [h1]
  simp [go_sem, hc]
end
theorem name_field (g : Nat) (w : World) : (Instr.fieldAt 23 (.pointer (some ⟨g, 0, none⟩)) 2).run Tryd.prog w = .ok (.pointer (some ⟨g, 2, none⟩)) w := by kernel_rfl
/-- The slot's block, two images' blocks behind it; below the first nothing has turned. -/
structure Wr (w0 w : World) (b : Nat) (x : Slt) (l m : List Nat) : Prop where
  on : Below b w0 w
  slo : Sb w b x
  res : Im w (b + 1) l
  img : Im w (b + 1 + 1) m
theorem Wr.put {w0 w w' : World} {b : Nat} {x : Slt} {l m m' : List Nat} (h : Wr w0 w b x l m) (hI : Im w' (b + 1 + 1) m') (hb : Below (b + 1 + 1) w w') : Wr w0 w' b x l m' :=
  ⟨h.on.trans (hb.mono (by omega)), Ob.below h.slo hb (by omega), h.res.below hb (by omega), hI⟩
theorem Wr.on' {w0 w w' : World} {b : Nat} {x : Slt} {l m : List Nat} (h : Wr w0 w b x l m) (hb : On w w') : Wr w0 w' b x l m :=
  ⟨h.on.trans (Below.mono hb (Nat.le_of_lt (Ob.lt h.slo))), Ob.on h.slo hb, Ob.on h.res hb, Ob.on h.img hb⟩
theorem Wr.lt {w0 w : World} {b : Nat} {x : Slt} {l m : List Nat} (h : Wr w0 w b x l m) : b + 1 + 1 < w.heap.size := h.img.lt
set_option maxRecDepth 100000 in
set_option maxHeartbeats 2000000 in
theorem written_zero (x : Slt) (w : World) (hz : isZ x = true) : Calls Tryd.prog 27 #[x.v] w fun e w' => e = .returned (.agg (wv [0, 0, 0]).toArray) ∧ On w w' := by
  have hq := fun W => eqZ hz W
  clear hz
  go_enter Tryd.func27, Tryd.ntmps27
  go_wp2_with (fail)
  exact bodyPost_ret (v := .agg #[.int .u64 0, .int .u64 0, .int .u64 0]) (by simp [results, Tryd.results27, go_sem]) rfl ⟨rfl, (on_two _ _ _).trans (on_alloc _ _)⟩
set_option maxRecDepth 100000 in
set_option maxHeartbeats 4000000 in
theorem written_go (i k : Nat) (s : ByteArray) (w : World) (hz : isZ ⟨i, k, s⟩ = false) (hi : i < 256) (hk : k < 256) (h1 : 1 ≤ s.size) (h2 : s.size ≤ 16) (hT : TabAt w) (p0 p1 t c : Nat) (e0 : pw s 0 = p0) (e1 : pw s 1 = p1) (et : i + 256 * k + 65536 * s.size = t) (ec : crcN p0 p1 t = c) :
    Calls Tryd.prog 27 #[Slt.v ⟨i, k, s⟩] w fun e w' => e = .returned (.agg (wv [p0, p1, t + 4294967296 * c]).toArray) ∧ On w w' := by
  have hq := fun W => eqZ hz W
  obtain ⟨tc, htc⟩ : ∃ tc, t + 4294967296 * c = tc := ⟨_, rfl⟩
  rw [htc]
  have HTC := Lib.hid htc
  clear htc
  obtain ⟨q1, q2, q3⟩ := pack_fill s h1 h2
  rw [e0, e1] at q1
  have hps := fun W => pack_calls s W (by omega)
  generalize packL s.data.toList = l at *
  have HT := Lib.hid hT
  have Q1 := Lib.hid q1
  have HP := Lib.hid hps
  clear hz hT q1 hps
  have hW0 : Wr w (((w.alloc (.cells (Slt.c ⟨i, k, s⟩) 23)).alloc (.cells #[.int .u64 0, .int .u64 0, .int .u64 0] 68)).alloc (.cells #[.int .u64 0, .int .u64 0, .int .u64 0] 68)) w.heap.size ⟨i, k, s⟩ [0, 0, 0] [0, 0, 0] := by
    refine ⟨(on_two _ _ _).trans (on_alloc _ _), ((Ob.new w _).alloc _).alloc _, ?_, ?_⟩
    · have h : Ob ((w.alloc (.cells (Slt.c ⟨i, k, s⟩) 23)).alloc (.cells #[.int .u64 0, .int .u64 0, .int .u64 0] 68)) _ _ := Ob.new _ _
      have h := h.alloc (.cells #[.int .u64 0, .int .u64 0, .int .u64 0] 68)
      rw [World.size_alloc] at h
      exact h
    · have h : Ob (((w.alloc (.cells (Slt.c ⟨i, k, s⟩) 23)).alloc (.cells #[.int .u64 0, .int .u64 0, .int .u64 0] 68)).alloc (.cells #[.int .u64 0, .int .u64 0, .int .u64 0] 68)) _ _ := Ob.new _ _
      rw [World.size_alloc, World.size_alloc] at h
      exact h
  have HW := Lib.hid hW0
  clear hW0
  go_enter Tryd.func27, Tryd.ntmps27
  go_wp2_with (fail)
  generalize ((w.alloc (.cells (Slt.c ⟨i, k, s⟩) 23)).alloc (.cells #[.int .u64 0, .int .u64 0, .int .u64 0] 68)).alloc (.cells #[.int .u64 0, .int .u64 0, .int .u64 0] 68) = W at *
  have hlt := HW.out.lt
  refine wp_region_rel2 (E := fun k => decide (k ≤ 3)) (s := 4) (T0 := On) (T := WrT (w.heap.size + 1 + 1) (.cells (wv [p0, p1, 0]).toArray 68 (0, 0))) (R := sps (w.heap.size + 1 + 1) (.cells (wv [p0, p1, 0]).toArray 68 (0, 0)) [.val (.slice (some ⟨w.heap.size + 1 + 1, 0, none⟩) 2 3), .val (.pointer (some ⟨w.heap.size, 2, none⟩)), .val (.string s), .row l, .done])
    (by kernel_rfl) (by kernel_rfl) On.refl On.trans WrT.on WrT.trans (fun i v w w' h k => Sp2.stable h k) (sps_un (by kernel_rfl)) (On.drawn _) (by kernel_rfl) ?steps ?rest
  case steps =>
    refine ⟨?s0, ?s1, ?s2, ?s3, ?s4, trivial⟩
    case s0 => exact fun a u hT h0 hA hd => .inl ⟨rfl, stp_sliceA (On.refl _) (.tmp 3) rfl (w.heap.size + 1 + 1) (hA.eval 3 rfl) rfl⟩
    case s1 => exact fun a u hT h0 hA hd => .inl ⟨rfl, stp_faddr (On.refl _) (.tmp 1) 23 2 rfl ⟨w.heap.size, 0, none⟩ ⟨w.heap.size, 2, none⟩ (hA.eval 1 rfl) (name_field _ _) rfl⟩
    case s2 => exact fun a u hT h0 hA hd => .inl ⟨rfl, stp_loadStr (On.refl _) (.tmp 11) rfl ⟨w.heap.size, 2, none⟩ (.string s) (dep hd 1 11 rfl rfl) (Sb.cells (HW.out.slo.on (h0 rfl))).2.2 rfl⟩
    case s3 =>
      intro a u hT h0 hA hd
      have hz := hT.only.size
      have e12 : a.eval (.tmp 12) = .string s := dep hd 2 12 rfl rfl
      refine .inl ⟨rfl, StepOK.call 43 #[.string s] ?_ ((HP.out u).mono ?_)⟩
      · unfold execOp
        simp [go_sem]
        simpa [go_sem] using e12
      · rintro e u' ⟨A, c, rfl, hr, hfr, hb⟩
        refine ⟨_, rfl, ⟨A, c, rfl, hr, fun ad e => ?_⟩, hb⟩
        obtain ⟨g, rfl, hg⟩ := hfr ad e
        show g ≠ _
        omega
    case s4 =>
      intro a u hT h0 hA hd
      have hB : Im u (w.heap.size + 1 + 1) [0, 0, 0] := Ob.on HW.out.img (h0 rfl)
      obtain ⟨A, c, e2, hr, _⟩ := (show (Sp2.row l).ok (w.heap.size + 1 + 1) _ (a.eval (.tmp 13)) u from dep hd 3 13 rfl rfl)
      have hfin := setRow_heap u (w.heap.size + 1 + 1) _ (wv (l ++ [0, 0, 0].drop l.length)).toArray 68 (0, 0) hB
      have hfin2 : (u.setRow (w.heap.size + 1 + 1) (wv (l ++ [0, 0, 0].drop l.length)).toArray).heap[w.heap.size + 1 + 1]? = some (.cells (wv [p0, p1, 0]).toArray 68 (0, 0)) := by rw [← Q1.out]; exact hfin
      exact .inl ⟨rfl, stp_copy (.tmp 10) (.tmp 13) rfl 68 (w.heap.size + 1 + 1) 2 3 l [0, 0, 0] A c (dep hd 0 10 rfl rfl) e2 hr q2 q3 (by simp only [List.length_cons, List.length_nil]; omega) hB ⟨Only.setRow (F := fun k => k = w.heap.size + 1 + 1) (Only.refl _ _) rfl _, fun _ => hfin2⟩ hfin2⟩
  case rest =>
    intro vs u hT hR
    have h4 : u.heap[w.heap.size + 1 + 1]? = some (.cells (wv [p0, p1, 0]).toArray 68 (0, 0)) := hR 4 (by decide)
    have hz := hT.only.size
    have hbl := hT.only.block
    have hon := HW.out.on
    have Hu : Wr w u w.heap.size ⟨i, k, s⟩ [0, 0, 0] [p0, p1, 0] :=
      ⟨⟨hT.only.os.trans hon.os, hT.only.tape.trans hon.tape, hT.only.output.trans hon.output, Nat.le_trans hon.size hz, fun j hj => (hbl j (Nat.lt_of_lt_of_le hj hon.size) (by omega)).trans (hon.block j hj)⟩,
        (hbl _ (by omega) (by omega)).trans HW.out.slo, (hbl _ (by omega) (by omega)).trans HW.out.res, h4⟩
    have HU := Lib.hid Hu
    simp only [putsFrom, Act.put, List.setIfInBounds_toArray, List.set_cons_succ, List.set_cons_zero]
    generalize vs 0 = z0
    generalize vs 1 = z1
    generalize vs 2 = z2
    generalize vs 3 = z3
    generalize vs 4 = z4
    clear hR hT h4 hz hbl hon Hu HW hlt HP Q1 q2 q3 hq
    clear W l
    have wi : IntKind.u64.wrap (i : Int) = (i : Int) := by rw [IntKind.wrap_u64]; omega
    have wk : IntKind.u64.wrap (k : Int) = (k : Int) := by rw [IntKind.wrap_u64]; omega
    have wn : IntKind.u64.wrap (s.size : Int) = (s.size : Int) := by rw [IntKind.wrap_u64]; omega
    have l0 := pw_lt s 0
    have l1 := pw_lt s 1
    rw [e0] at l0
    rw [e1] at l1
    have HE0 := Lib.hid e0
    have HE1 := Lib.hid e1
    have HET := Lib.hid et
    have HEC := Lib.hid ec
    clear e0 e1 et ec
    -- Ino
    obtain ⟨x0, x1, x2⟩ := Sb.cells HU.out.slo
    have hl := HU.out.lt
    have hl2 : w.heap.size < u.heap.size := by omega
    go_wp2_with (fail)
    refine (eput_ok 68 (w.heap.size + 1 + 1) 2 [p0, p1, 0] 0 0 8 i _ _ _ rfl rfl HU.out.img (by simp) rfl (by decide) (by decide) (by decide) (by simpa using hi)).mono ?_
    rintro e u1 ⟨rfl, hI, hb⟩
    rw [put_slot1, show [p0, p1, 0].set 2 i = [p0, p1, i] from rfl] at hI
    have HU1 := Lib.hid (HU.out.put hI hb)
    clear HU hI hb x0 x1 x2 hl hl2
    obtain ⟨x0, x1, x2⟩ := Sb.cells HU1.out.slo
    have hl := HU1.out.lt
    have hl2 : w.heap.size < u1.heap.size := by omega
    go_wp2_with (fail)
    refine (eput_ok 68 (w.heap.size + 1 + 1) 2 [p0, p1, i] i 8 8 k _ _ _ rfl rfl HU1.out.img (by simp) rfl (by omega) (by decide) (by decide) (by simpa using hk)).mono ?_
    rintro e u2 ⟨rfl, hI, hb⟩
    rw [put_slot2 _ _ hi, show [p0, p1, i].set 2 (i + 256 * k) = [p0, p1, i + 256 * k] from rfl] at hI
    have HU2 := Lib.hid (HU1.out.put hI hb)
    clear HU1 hI hb x0 x1 x2 hl hl2
    obtain ⟨x0, x1, x2⟩ := Sb.cells HU2.out.slo
    have hl := HU2.out.lt
    have hl2 : w.heap.size < u2.heap.size := by omega
    go_wp2_with (fail)
    refine (eput_ok 68 (w.heap.size + 1 + 1) 2 [p0, p1, i + 256 * k] (i + 256 * k) 16 8 s.size _ _ _ rfl rfl HU2.out.img (by simp) rfl (by omega) (by decide) (by decide) (by simp; omega)).mono ?_
    rintro e u3 ⟨rfl, hI, hb⟩
    rw [put_slot3 _ _ _ hi hk, HET.out, show [p0, p1, i + 256 * k].set 2 t = [p0, p1, t] from rfl] at hI
    have HU3 := Lib.hid (HU2.out.put hI hb)
    clear HU2 hI hb x0 x1 x2 hl hl2 wi wk wn
    have ht : t < 4294967296 := by have := HET.out; omega
    have hwd : Wd [p0, p1, t] := fun j => by
      match j with
      | 0 => exact l0
      | 1 => exact l1
      | 2 => show t < _; omega
      | j + 3 => simp
    have htx : txtV [p0, p1, t] 20 = ⟨(textL [p0, p1, t] 20).toArray⟩ ∧ txtE [p0, p1, t] 20 = 0 := ⟨txtV_yes ⟨by decide, by simp⟩, txtE_yes ⟨by decide, by simp⟩⟩
    have hcr : moreV 0 (bytesN (txtV [p0, p1, t] 20).data.toList) = c := by rw [htx.1, ← HEC.out]; rfl
    have hsz : (txtV [p0, p1, t] 20).size ≤ 1099511627776 := by rw [htx.1]; show (textL [p0, p1, t] 20).toArray.size ≤ _; simp [textL]
    have hte := htx.2
    have hc2 : c < 4294967296 := by rw [← HEC.out]; exact crcN_lt _ _ _
    have htc : ∀ W, Row W (some ⟨w.heap.size + 1 + 1, 0, none⟩) [p0, p1, t] → Calls Tryd.prog 45 #[.slice (some ⟨w.heap.size + 1 + 1, 0, none⟩) 3 3, .int .i64 20] W (GivesText (txtV [p0, p1, t] 20) 0 W) := fun W hr => by
      have h := text_calls (some ⟨w.heap.size + 1 + 1, 0, none⟩) [p0, p1, t] 3 20 W (by decide) hr hwd (by simp)
      rw [hte] at h
      exact h
    generalize txtV [p0, p1, t] 20 = tx at *
    have HTX := Lib.hid htc
    have HCR := Lib.hid hcr
    clear htx hcr hte htc
    have hl := HU3.out.lt
    go_wp2_with (fail)
    refine (HTX.out _ (Blk.row HU3.out.img)).mono ?_
    rintro e u4 ⟨rfl, hb⟩
    have HU4 := Lib.hid (HU3.out.on' hb)
    have hT4 := HT.out.below (HU4.out.on)
    clear HU3 hb hl HTX
    have hl := HU4.out.lt
    go_wp2_with (fail)
    refine (of_calls tx _ hsz hT4).mono ?_
    rintro e u5 ⟨rfl, rfl⟩
    rw [HCR.out]
    clear hT4 HCR
    have wc : IntKind.u64.wrap (c : Int) = (c : Int) := by rw [IntKind.wrap_u64]; omega
    go_wp2_with (fail)
    refine (eput_ok 68 (w.heap.size + 1 + 1) 2 [p0, p1, t] t 32 32 c _ _ _ rfl rfl HU4.out.img (by simp) rfl (by omega) (by decide) (by decide) (by simpa using hc2)).mono ?_
    rintro e u6 ⟨rfl, hI, hb⟩
    rw [put_slot4 _ _ ht, HTC.out, show [p0, p1, t].set 2 tc = [p0, p1, tc] from rfl] at hI
    have HU6 := HU4.out.put hI hb
    clear HU4 hI hb hl wc
    obtain ⟨i0, i1, i2⟩ := Blk.cells3 HU6.img
    obtain ⟨r0, r1, r2⟩ := Blk.cells3 HU6.res
    have fr := HU6.res.frozen
    have hl := HU6.lt
    have hl2 : w.heap.size + 1 < u6.heap.size := by omega
    have hon := HU6.on
    clear HU6
    go_wp2_with (fail)
    exact bodyPost_ret (v := .agg #[.int .u64 (p0 : Nat), .int .u64 (p1 : Nat), .int .u64 (tc : Nat)]) (by simp [results, Tryd.results27, go_sem, r0, r1, r2]) rfl ⟨rfl, ((hon.setCell (Nat.le_succ _) _).setCell (Nat.le_succ _) _).setCell (Nat.le_succ _) _⟩
/-- The words of a slot that may be. -/
theorem written_calls (x : Slt) (w : World) (I : Int) (hI : I ≤ 64) (hx : okS x I = true) (hT : TabAt w) :
    Calls Tryd.prog 27 #[x.v] w fun e w' => e = .returned (.agg (wv (slW x)).toArray) ∧ On w w' := by
  cases hz : isZ x with
  | true =>
    have e : slW x = [0, 0, 0] := by unfold slW; rw [if_pos hz]
    rw [e]
    exact written_zero x w hz
  | false =>
    have hf := okS_fit hx hI
    have e : slW x = [pw x.S 0, pw x.S 1, tailN x + 4294967296 * crcN (pw x.S 0) (pw x.S 1) (tailN x)] := by unfold slW; rw [if_neg (by rw [hz]; decide)]
    rw [e]
    have h1 : 1 ≤ x.S.size := by
      unfold okS at hx
      rw [hz, Bool.false_or] at hx
      unfold fullB at hx
      simp only [Bool.and_eq_true, decide_eq_true_eq] at hx
      exact hx.2.2.1.1
    obtain ⟨i, k, s⟩ := x
    obtain ⟨⟨i0, i1⟩, ⟨k0, k1⟩, s1⟩ := hf
    simp only at i0 i1 k0 k1 s1 h1
    obtain ⟨i, rfl⟩ := Int.eq_ofNat_of_zero_le i0
    obtain ⟨k, rfl⟩ := Int.eq_ofNat_of_zero_le k0
    exact written_go i k s w hz (by omega) (by omega) h1 s1 hT _ _ _ _ rfl rfl rfl rfl
end Go.Proofs.YtipghcpodhokbaaDoor
