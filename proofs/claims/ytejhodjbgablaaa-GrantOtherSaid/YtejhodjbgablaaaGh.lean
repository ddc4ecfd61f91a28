/- The group entries: the program's. -/
import Derived.Test.YtejhodjbgablaaaGg
set_option linter.unusedSimpArgs false
set_option linter.unusedVariables false
namespace Go.Proofs.Ytejhodjbgablaaa
open Go.RowKit
section
variable {P : Program} {T : World → World → Prop} {R : Nat → Value → World → Prop} {l0 : List Oper} {a0 : Act} {w0 : World} {s : Nat}
def StepsX (P : Program) (T : World → World → Prop) (R : Nat → Value → World → Prop) (l0 : List Oper) (a0 : Act) (w0 : World) (s : Nat) : Nat → List Oper → Prop
  | _, [] => True
  | k, o :: r => (k < s → StepAt P T R l0 a0 w0 k o) ∧ StepsX P T R l0 a0 w0 s (k + 1) r
theorem StepsX.at : ∀ {l : List Oper} {k : Nat}, StepsX P T R l0 a0 w0 s k l → ∀ (i : Nat) (o : Oper), l[i]? = some o → k + i < s → StepAt P T R l0 a0 w0 (k + i) o
  | [], _, _, i, o, h, _ => by simp at h
  | x :: r, k, hS, i, o, h, hn => by
    cases i with
    | zero =>
      simp only [List.getElem?_cons_zero, Option.some.injEq] at h
      subst h
      exact hS.1 hn
    | succ i =>
      rw [List.getElem?_cons_succ] at h
      have := hS.2.at i o h (by omega)
      rwa [show k + 1 + i = k + (i + 1) by omega] at this
theorem StepsX.at0 (h : StepsX P T R l0 a0 w0 s 0 l0) (i : Nat) (o : Oper) (hi : l0[i]? = some o) (hs : i < s) : StepAt P T R l0 a0 w0 i o := by
  have := h.at i o hi (by omega)
  rwa [Nat.zero_add] at this
end
set_option maxRecDepth 100000 in
set_option maxHeartbeats 8000000 in
theorem ent_calls (x : At) (p : ALie) (w : World) (h : ALies w x p) (hs : ASm x) :
    Calls Try.prog 40 #[x.v p] w fun e w' => ∃ B d, e = .returned (.slice B (entL x).length d) ∧ Hid (Cel w' B (nv (entL x))) ∧ Below w.heap.size w w' := by
  obtain ⟨V, hV⟩ : ∃ V, V = w.alloc (.cells (x.c p) 31) := ⟨_, rfl⟩
  have hb : Below w.heap.size w V := by rw [hV]; exact (Below.refl _ _).alloc (Nat.le_refl _) _
  have hz : Bt V w.heap.size x p := by rw [hV]; exact Bt.new w x p
  have HL := Lib.hid (h.ac.gs.below hb)
  have HSM := Lib.hid hs.ac.gs
  obtain ⟨b, hbx⟩ : ∃ b, w.heap.size = b := ⟨_, rfl⟩
  rw [hbx] at hz
  have HZ := Lib.hid hz
  have HB := Lib.hid hb
  have HBX := Lib.hid hbx
  have HLV : Hid (b < V.heap.size) := Lib.hid hz.lt
  clear h hb hz hs
  go_enter Try.func40, Try.ntmps40
  go_upto_region 1 with (fail)
  rw [← hV]
  clear hV hbx
  refine wp_region_last (R := R4 [.val (.pointer (some ⟨b, 3, none⟩)), .val (.pointer (some ⟨b, 7, none⟩)), .val (.slice p.p.B x.ac.gs.length p.p.d), ownS V.heap.size x.ac.gs, .val (.pointer (some ⟨b, 2, none⟩)), .val (.int .u16 (x.gi : Nat)), .val (.pointer (some ⟨b, 3, none⟩)), .val (.pointer (some ⟨b, 4, none⟩)), .val (.int .u8 (x.ac.gr : Nat)), .val (.agg #[.int .u16 (x.gi : Nat), .int .u8 (x.ac.gr : Nat)]), oneS ⟨x.gi, x.ac.gr⟩, namS (entL x), namS (entL x)]) 11 (by kernel_rfl) (by kernel_rfl) (by kernel_rfl) (by kernel_rfl) (by kernel_rfl) (fun i v w w' h k => Sp4.stable h k) (fun i o hi hne => ?rest1) (fun i o hi hne a u hb hA hd => ?rest2) (fun o ho a u hb hA hd => ?last) (by decide) (fun vs w' hb hR => ?fin)
  case rest1 =>
    refine StepsX.at0 ?steps i o hi hne
    refine ⟨fun _ => ?s0, fun _ => ?s1, fun _ => ?s2, fun _ => ?s3, fun _ => ?s4, fun _ => ?s5, fun _ => ?s6, fun _ => ?s7, fun _ => ?s8, fun _ => ?s9, fun _ => ?s10, fun _ => ?s11, fun _ => ?s12, trivial⟩
    case s0 =>
      exact st4_val _ rfl (.inl rfl) fun a u hb hA hd => by
        have q0 := ev_of (show a.eval (.tmp 1) = .pointer (some ⟨b, 0, none⟩) from hA.eval 1 rfl)
        unfold execOp
        simp [go_sem, q0]
    case s1 =>
      exact st4_val _ rfl (.inl rfl) fun a u hb hA hd => by
        have q0 := ev_of (show a.eval (.tmp 3) = .pointer (some ⟨b, 3, none⟩) from hd 0 3 rfl rfl _ rfl)
        unfold execOp
        simp [go_sem, q0]
    case s2 =>
      exact st4_val _ rfl (.inl rfl) fun a u hb hA hd => by
        have q0 := ev_of (show a.eval (.tmp 4) = .pointer (some ⟨b, 7, none⟩) from hd 1 4 rfl rfl _ rfl)
        have y0 := (HZ.out.on hb).c7
        unfold execOp
        simp [go_sem, q0, y0]
    case s3 =>
      refine st4_call _ rfl (.inl rfl) 52 fun a u hb hA hd => ?_
      have q0 := ev_of (show a.eval (.tmp 5) = .slice p.p.B x.ac.gs.length p.p.d from hd 2 5 rfl rfl _ rfl)
      refine ⟨#[.slice p.p.B x.ac.gs.length p.p.d], ?_, (clone_calls u p.p.B x.ac.gs p.p.d (HL.out.below hb) HSM.out).mono ?_⟩
      · unfold execOp
        simp [go_sem, q0]
      · rintro e w' ⟨B, d, rfl, hM, hb'⟩
        exact ⟨_, rfl, ⟨B, d, rfl, hM.1, fun ad e => Nat.le_trans hb.size (hM.2 ad e)⟩, hb'⟩
    case s4 =>
      exact st4_val _ rfl (.inl rfl) fun a u hb hA hd => by
        have q0 := ev_of (show a.eval (.tmp 1) = .pointer (some ⟨b, 0, none⟩) from hA.eval 1 rfl)
        unfold execOp
        simp [go_sem, q0]
    case s5 =>
      exact st4_val _ rfl (.inl rfl) fun a u hb hA hd => by
        have q0 := ev_of (show a.eval (.tmp 7) = .pointer (some ⟨b, 2, none⟩) from hd 4 7 rfl rfl _ rfl)
        have y0 := (HZ.out.on hb).c2
        unfold execOp
        simp [go_sem, q0, y0]
    case s6 =>
      exact st4_val _ rfl (.inl rfl) fun a u hb hA hd => by
        have q0 := ev_of (show a.eval (.tmp 1) = .pointer (some ⟨b, 0, none⟩) from hA.eval 1 rfl)
        unfold execOp
        simp [go_sem, q0]
    case s7 =>
      exact st4_val _ rfl (.inl rfl) fun a u hb hA hd => by
        have q0 := ev_of (show a.eval (.tmp 9) = .pointer (some ⟨b, 3, none⟩) from hd 6 9 rfl rfl _ rfl)
        unfold execOp
        simp [go_sem, q0]
    case s8 =>
      exact st4_val _ rfl (.inl rfl) fun a u hb hA hd => by
        have q0 := ev_of (show a.eval (.tmp 10) = .pointer (some ⟨b, 4, none⟩) from hd 7 10 rfl rfl _ rfl)
        have y0 := (show u.cell? ⟨b, 4, none⟩ = some (.int .u8 (x.ac.gr : Nat)) from (HZ.out.on hb).cell 4)
        unfold execOp
        simp [go_sem, q0, y0]
    case s9 =>
      exact st4_val _ rfl (.inl rfl) fun a u hb hA hd => by
        have q0 := ev_of (show a.eval (.tmp 8) = .int .u16 (x.gi : Nat) from hd 5 8 rfl rfl _ rfl)
        have q1 := ev_of (show a.eval (.tmp 11) = .int .u8 (x.ac.gr : Nat) from hd 8 11 rfl rfl _ rfl)
        unfold execOp
        simp [go_sem, q0, q1]
    case s10 =>
      refine st4_mk _ rfl (.inl rfl) fun a u hb hA hd => ?_
      have q0 := ev_of (show a.eval (.tmp 12) = .agg #[.int .u16 (x.gi : Nat), .int .u8 (x.ac.gr : Nat)] from hd 9 12 rfl rfl _ rfl)
      refine ⟨.slice (some ⟨u.heap.size, 0, none⟩) 1 1, u.alloc (.cells (onec ⟨x.gi, x.ac.gr⟩).toArray 43), ?_, ⟨u.heap.size, rfl, heap_alloc_new u _⟩, (Below.refl _ _).alloc (Nat.le_refl _) _⟩
      unfold execOp
      simp [go_sem, q0]
    case s11 =>
      exact absurd (by assumption : 11 < 11) (by decide)
    case s12 =>
      exact absurd (by assumption : 12 < 11) (by decide)
  case rest2 =>
    have hil : i < 13 := (List.getElem?_eq_some_iff.1 hi).1
    obtain rfl : i = 12 := by omega
    cases hi
    exact StepOK.assign _ rfl (hd ⟨11, .data⟩ (by simp) rfl (by decide) _ rfl) (On.refl _)
  case last =>
    cases ho
    obtain ⟨A, c, e0, hO, hF⟩ := (show ∃ A c, a.eval (.tmp 6) = .slice A x.ac.gs.length c ∧ OwnR u 43 2 A x.ac.gs.length c (nv x.ac.gs) ∧ ∀ ad, A = some ad → V.heap.size ≤ ad.block from dep4 hd 3 6 rfl rfl _ rfl)
    obtain ⟨g, e1, hg⟩ := (show ∃ g, a.eval (.tmp 13) = .slice (some ⟨g, 0, none⟩) 1 1 ∧ u.heap[g]? = some (.cells (onec ⟨x.gi, x.ac.gr⟩).toArray 43 (0, 0)) from dep4 hd 10 13 rfl rfl _ rfl)
    have q0 := ev_of e0
    have q1 := ev_of e1
    refine StepOK.call 51 #[.slice A x.ac.gs.length c, .int .i64 0, .slice (some ⟨g, 0, none⟩) 1 1] ?_ ((insert_calls A c g ⟨x.gi, x.ac.gr⟩ x.ac.gs u V.heap.size hO HSM.out hg hb.size hF).mono ?_)
    · unfold execOp
      simp [go_sem, q0, q1]
    · rintro e w' ⟨B, d, rfl, hC, hb'⟩
      exact ⟨_, rfl, ⟨B, d, rfl, hC⟩, Below.trans hb hb'⟩
  case fin =>
    obtain ⟨B, d, e, hC⟩ := (show ∃ B d, vs 12 = .slice B (entL x).length d ∧ Cel w' B (nv (entL x)) from hR 12 (by decide) (by decide))
    have HC := Lib.hid hC
    have HBW := Lib.hid (HB.out.trans (Below.mono hb HB.out.size))
    clear hR hC hb
    simp only [putsFrom, Act.put, List.setIfInBounds_toArray, List.set_cons_succ, List.set_cons_zero, e]
    generalize vs 0 = z0
    generalize vs 1 = z1
    generalize vs 2 = z2
    generalize vs 3 = z3
    generalize vs 4 = z4
    generalize vs 5 = z5
    generalize vs 6 = z6
    generalize vs 7 = z7
    generalize vs 8 = z8
    generalize vs 9 = z9
    generalize vs 10 = z10
    generalize vs 11 = z11
    go_wp2_with (fail)
    go_ret
    exact ⟨B, d, rfl, HC, HBW.out⟩
end Go.Proofs.Ytejhodjbgablaaa
