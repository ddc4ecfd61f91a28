/- What the laws share: what they do not look at; the chapter's examples hold. -/
import Derived.Test.YtgdiiicaljidpaaQf
import Derived.Test.YtgdiiicaljidpaaMo
import Derived.Test.YtgdiiicaljidpaaLwT
set_option linter.unusedSimpArgs false
set_option linter.unusedVariables false
set_option linter.unusedSimpArgs false
set_option linter.unusedVariables false
namespace Go.Proofs.Ytgdiiicaljidpaa
open Go.RowKit
def largeG (c : Cr) (x : At) : Bool := largeB x || decide (60 < c.gs.length)
set_option maxRecDepth 100000 in
theorem glarge_calls (c : Cr) (A : Option Addr) (n : Nat) (x : At) (p : ALie) (w : World) (hc : CLies w c A) (h : ALies w x p) (hs : ABg x) :
    Calls Try.prog 8 #[c.v A n, x.v p] w fun e w' => e = .returned (.bool (largeG c x)) ∧ Below w.heap.size w w' := by
  obtain ⟨V, hV⟩ : ∃ V, V = (w.alloc (.cells (c.c A n) 25)).alloc (.cells (x.c p) 31) := ⟨_, rfl⟩
  have S0 : Hid (Pb w V c A n x p) := Lib.hid (by rw [hV]; exact Pb.start hc h)
  have HL := Lib.hid (alarge_calls x p V S0.out.al hs)
  have HV0 : Hid (largeG c x = (largeB x || decide (60 < c.gs.length))) := Lib.hid rfl
  have hsm := hc.sm
  obtain ⟨m, hm⟩ : ∃ m, c.gs.length = m := ⟨_, rfl⟩
  rw [hm] at hsm HV0
  have HM := Lib.hid hm
  clear hc h hs hm
  go_enter Try.func8, Try.ntmps8
  go_upto_region 1 with (fail)
  rw [← hV]
  clear hV
  go_wp2_with (refine wpList_load_part rfl 31 (.tmp 3) rfl (w.heap.size + 1) 0 rfl (x.c p).toList _ S0.out.bt.bt0 Try.underlying31 rfl attr_size (x.v p) rfl ?_)
  refine HL.out.mono ?_
  rintro e w1 ⟨rfl, hb⟩
  have S1 := Lib.hid (S0.out.on hb)
  have yc2 := S1.out.cb.c2
  rw [HM.out] at yc2
  clear hb S0 HL
  generalize largeB x = t at *
  cases t
  case true =>
    go_wp2_with (fail)
    go_ret
    exact ⟨by rw [HV0.out]; rfl, S1.out.be⟩
  case false =>
    have HV : Hid (largeG c x = decide (60 < m)) := Lib.hid (by rw [HV0.out]; rfl)
    by_cases h6 : 60 < m
    · have d1 : decide ((60 : Int) < (m : Int)) = true := by rw [decide_eq_true_eq]; omega
      go_wp2_with (fail)
      go_ret
      exact ⟨by rw [HV.out, decide_eq_true h6]; rfl, S1.out.be⟩
    · have d1 : decide ((60 : Int) < (m : Int)) = false := by rw [decide_eq_false_iff_not]; omega
      go_wp2_with (fail)
      go_ret
      exact ⟨by rw [HV.out, decide_eq_false h6]; rfl, S1.out.be⟩
theorem largeG_no {c : Cr} {x : At} (h : largeG c x = false) : ASm x ∧ Ks x ∧ c.gs.length ≤ 60 := by
  unfold largeG at h
  rw [Bool.or_eq_false_iff, decide_eq_false_iff_not] at h
  obtain ⟨h1, h2⟩ := large_no h.1
  exact ⟨h1, fun k q hk => by have := (h2 k q hk).1; omega, by omega⟩
theorem clies_nil (w : World) (u g : Nat) (h : Bool) : CLies w ⟨u, g, [], h⟩ none := ⟨Cel.nil _ _, by simp⟩
abbrev zCr : Array Value := #[.int .u16 0, .int .u16 0, .slice none 0 0, .bool false]
abbrev xF : Cr := ⟨5, 1, [], false⟩
abbrev xP : At := ⟨0, 0, 9, ⟨7, 5, 5, [], [], false, 0⟩, false, acZ, []⟩
abbrev xD : Ac := ⟨7, 7, 5, [⟨8, 6⟩], [], true, 7⟩
theorem sm_x (b u g o r t : Nat) (h : Bool) (d : Ac) (hd : d.us.length ≤ 1) (hg : d.gs = []) : ASm ⟨b, u, g, ⟨o, r, t, [], [], false, 0⟩, h, d, []⟩ :=
  ⟨⟨by show (0 : Nat) ≤ _; omega, by show (0 : Nat) ≤ _; omega⟩, ⟨by show d.us.length ≤ _; omega, by show d.gs.length ≤ _; rw [hg]; decide⟩, by show (0 : Nat) ≤ _; omega⟩
theorem aow_x (w : World) : AOw w xP alieZ := ⟨⟨OwnR.nil _ _ _, OwnR.nil _ _ _⟩, ⟨OwnR.nil _ _ _, OwnR.nil _ _ _⟩, OwnR.nil _ _ _⟩
theorem own_one {w : World} {g : Nat} (h : w.heap[g]? = some (.cells #[.int .u16 8, .int .u8 6] 53 (0, 0))) : OwnR w 53 2 (some ⟨g, 0, none⟩) 1 1 (nv [⟨8, 6⟩]) :=
  ⟨rfl, Nat.le_refl _, by unfold maxLen; decide, .inr ⟨g, _, rfl, h, by decide, rfl⟩⟩
section
variable {P : Program}
/-- A part of a block is loaded whole: a single operation (of a list so long that its guard is the walk's own business). -/
theorem wp_load_part {o : Oper} {a : Act} {w : World} {K : Act → World → Prop} {Q : Exit → Act → World → Prop} (ty : TypeId) (x : Operand) (ho : o.op = .load ty x)
    (g k : Nat) (hx : a.eval x = .pointer (some ⟨g, k, none⟩)) (cs : List Value) (d : TypeDesc) (hc : ∀ j u, cs[j]? = some u → w.cell? ⟨g, k + j, none⟩ = some u)
    (hu : P.underlying ty = some d) (hd : (match d with | .struct _ | .array _ _ => true | _ => false) = true) (hi : (P.info? ty).map (·.size) = some cs.length) (v : Value) (hv : v = .agg cs.toArray)
    (h : K (a.put o.dst v) w) : o.wp P a w K Q := by
  subst hv
  unfold Oper.wp execOp
  simp only [ho, hx, Instr.loadAt, Instr.sureAddr, Sem.run_bind, Sem.run_pure, Result.andThen_ok, run_loadVar_part w ty g k cs d hc hu hd hi]
  exact h
end
set_option maxRecDepth 100000 in
set_option maxHeartbeats 16000000 in
theorem alive_calls (w : World) : Calls Try.prog 9 #[] w fun e w' => e = .returned (.bool true) ∧ Below w.heap.size w w' := by
  obtain ⟨F, hF⟩ : ∃ F, F = xF := ⟨_, rfl⟩
  obtain ⟨P, hP⟩ : ∃ F, F = xP := ⟨_, rfl⟩
  obtain ⟨D, hD⟩ : ∃ F, F = xD := ⟨_, rfl⟩
  obtain ⟨R1, hR1⟩ : ∃ R, newA xF 18 xP 1 438 = R := ⟨_, rfl⟩
  obtain ⟨R2, hR2⟩ : ∃ R, newA xF 18 xP 3 0 = R := ⟨_, rfl⟩
  obtain ⟨R3, hR3⟩ : ∃ R, newA xF 0 (withBi xP 2) 1 1517 = R := ⟨_, rfl⟩
  obtain ⟨R4, hR4⟩ : ∃ R, newA xF 63 (withDf (withBi xP 2) true xD) 2 416 = R := ⟨_, rfl⟩
  have c1 : Hid (∀ (W : World), Calls Try.prog 11 #[F.v none 0, .int .u16 18, At.v (P) alieZ, .int .u8 1, .int .u16 438] W fun e w' => ∃ q, e = .returned (.tuple #[At.v R1 q, .int .i64 0]) ∧ AOw w' R1 q ∧ Below W.heap.size W w') := Lib.hid (fun W => by
    rw [hF, hP]
    have e2 : newN xF (xP) 1 = 0 := by decide +kernel
    have h := new_calls xF none 0 18 (xP) alieZ 1 438 W (clies_nil _ _ _ _) ⟨⟨Cel.nil _ _, Cel.nil _ _⟩, ⟨Cel.nil _ _, Cel.nil _ _⟩, Cel.nil _ _⟩ (sm_x _ _ _ _ _ _ _ _ (by decide) rfl) (by decide) (by decide)
    rw [hR1, e2] at h
    exact h)
  have c2 : Hid (∀ (W : World), Calls Try.prog 11 #[F.v none 0, .int .u16 18, At.v (P) alieZ, .int .u8 3, .int .u16 0] W fun e w' => ∃ q, e = .returned (.tuple #[At.v R2 q, .int .i64 0]) ∧ AOw w' R2 q ∧ Below W.heap.size W w') := Lib.hid (fun W => by
    rw [hF, hP]
    have e2 : newN xF (xP) 3 = 0 := by decide +kernel
    have h := new_calls xF none 0 18 (xP) alieZ 3 0 W (clies_nil _ _ _ _) ⟨⟨Cel.nil _ _, Cel.nil _ _⟩, ⟨Cel.nil _ _, Cel.nil _ _⟩, Cel.nil _ _⟩ (sm_x _ _ _ _ _ _ _ _ (by decide) rfl) (by decide) (by decide)
    rw [hR2, e2] at h
    exact h)
  have c3 : Hid (∀ (W : World), Calls Try.prog 11 #[F.v none 0, .int .u16 0, At.v (withBi P 2) alieZ, .int .u8 1, .int .u16 1517] W fun e w' => ∃ q, e = .returned (.tuple #[At.v R3 q, .int .i64 0]) ∧ AOw w' R3 q ∧ Below W.heap.size W w') := Lib.hid (fun W => by
    rw [hF, hP]
    have e2 : newN xF (withBi xP 2) 1 = 0 := by decide +kernel
    have h := new_calls xF none 0 0 (withBi xP 2) alieZ 1 1517 W (clies_nil _ _ _ _) ⟨⟨Cel.nil _ _, Cel.nil _ _⟩, ⟨Cel.nil _ _, Cel.nil _ _⟩, Cel.nil _ _⟩ (sm_x _ _ _ _ _ _ _ _ (by decide) rfl) (by decide) (by decide)
    rw [hR3, e2] at h
    exact h)
  have c4 : Hid (∀ (q : ALie) (W : World), ALies W (withDf (withBi P 2) true D) q → Calls Try.prog 11 #[F.v none 0, .int .u16 63, At.v (withDf (withBi P 2) true D) q, .int .u8 2, .int .u16 416] W fun e w' => ∃ q, e = .returned (.tuple #[At.v R4 q, .int .i64 0]) ∧ AOw w' R4 q ∧ Below W.heap.size W w') := Lib.hid (fun q W hl => by
    rw [hF, hP, hD]
    have e2 : newN xF (withDf (withBi xP 2) true xD) 2 = 0 := by decide +kernel
    have h := new_calls xF none 0 63 (withDf (withBi xP 2) true xD) q 2 416 W (clies_nil _ _ _ _) (by rw [hP, hD] at hl; exact hl) (sm_x _ _ _ _ _ _ _ _ (by decide) rfl) (by decide) (by decide)
    rw [hR4, e2] at h
    exact h)
  have c5 : Hid (∀ (q : ALie) (W : World), ALies W (withDf (withBi P 2) true D) q → Calls Try.prog 11 #[F.v none 0, .int .u16 0, At.v (withDf (withBi P 2) true D) q, .int .u8 4, .int .u16 0] W fun e w' => ∃ q, e = .returned (.tuple #[At.v atZ q, .int .i64 622]) ∧ AOw w' atZ q ∧ Below W.heap.size W w') := Lib.hid (fun q W hl => by
    rw [hF, hP, hD]
    have e2 : newN xF (withDf (withBi xP 2) true xD) 4 = 622 := by decide +kernel
    have h := new_calls xF none 0 0 (withDf (withBi xP 2) true xD) q 4 0 W (clies_nil _ _ _ _) (by rw [hP, hD] at hl; exact hl) (sm_x _ _ _ _ _ _ _ _ (by decide) rfl) (by decide) (by decide)
    rw [show newA xF 0 (withDf (withBi xP 2) true xD) 4 0 = atZ from rfl, e2] at h
    exact h)
  have c6 : Hid (∀ (p : ALie) (W : World), Calls Try.prog 18 #[R1.v p] W fun e w' => e = .returned (.int .u16 420) ∧ Below W.heap.size W w') := Lib.hid (fun p W => by
    have e1 : modeN (newA xF 18 xP 1 438) = 420 := by decide +kernel
    have n1 : amayB (newA xF 18 xP 1 438) = true := by decide +kernel
    rw [hR1] at e1 n1
    have h := rmode_calls R1 p W (nb_may (amay_parts n1).2.1) (by have := may8 n1; omega)
    rw [e1] at h
    exact h)
  have c7 : Hid (∀ (p : ALie) (W : World), Calls Try.prog 18 #[R2.v p] W fun e w' => e = .returned (.int .u16 511) ∧ Below W.heap.size W w') := Lib.hid (fun p W => by
    have e1 : modeN (newA xF 18 xP 3 0) = 511 := by decide +kernel
    have n1 : amayB (newA xF 18 xP 3 0) = true := by decide +kernel
    rw [hR2] at e1 n1
    have h := rmode_calls R2 p W (nb_may (amay_parts n1).2.1) (by have := may8 n1; omega)
    rw [e1] at h
    exact h)
  have c8 : Hid (∀ (p : ALie) (W : World), Calls Try.prog 18 #[R3.v p] W fun e w' => e = .returned (.int .u16 493) ∧ Below W.heap.size W w') := Lib.hid (fun p W => by
    have e1 : modeN (newA xF 0 (withBi xP 2) 1 1517) = 493 := by decide +kernel
    have n1 : amayB (newA xF 0 (withBi xP 2) 1 1517) = true := by decide +kernel
    rw [hR3] at e1 n1
    have h := rmode_calls R3 p W (nb_may (amay_parts n1).2.1) (by have := may8 n1; omega)
    rw [e1] at h
    exact h)
  have x1 : Hid (∀ V g q, Bt V g R1 q → V.cell? ⟨g, 2, none⟩ = some (.int .u16 1)) := Lib.hid (fun V g q h => by
    have e : R1.gi = 1 := by rw [← hR1]; decide +kernel
    have y := h.c2
    rwa [e] at y)
  have x3 : Hid (∀ V g q, Bt V g R3 q → V.cell? ⟨g, 2, none⟩ = some (.int .u16 9)) := Lib.hid (fun V g q h => by
    have e : R3.gi = 9 := by rw [← hR3]; decide +kernel
    have y := h.c2
    rwa [e] at y)
  have x4 : Hid (∀ V g q, Bt V g R4 q → V.cell? ⟨g, 3, none⟩ = some (.int .u8 6) ∧ V.cell? ⟨g, 4, none⟩ = some (.int .u8 7) ∧ V.cell? ⟨g, 9, none⟩ = some (.int .u8 4) ∧ V.cell? ⟨g, 5, none⟩ = some (.int .u8 0) ∧ V.cell? ⟨g, 6, none⟩ = some (.slice q.p.A 1 q.p.c) ∧ V.cell? ⟨g, 10, none⟩ = some (.bool true) ∧ V.cell? ⟨g, 17, none⟩ = some (.int .u8 7) ∧ V.cell? ⟨g, 0, none⟩ = some (.int .u8 2)) := Lib.hid (fun V g q h => by
    have e1 : R4.ac.ow = 6 := by rw [← hR4]; decide +kernel
    have e2 : R4.ac.gr = 7 := by rw [← hR4]; decide +kernel
    have e3 : R4.ac.ms = 4 := by rw [← hR4]; decide +kernel
    have e4 : R4.ac.ot = 0 := by rw [← hR4]; decide +kernel
    have e5 : R4.ac.us.length = 1 := by rw [← hR4]; decide +kernel
    have e6 : R4.hd = true := by rw [← hR4]; decide +kernel
    have e7 : R4.df.ms = 7 := by rw [← hR4]; decide +kernel
    have e8 : R4.bi = 2 := by rw [← hR4]; decide +kernel
    have y1 : V.cell? ⟨g, 3, none⟩ = some (.int .u8 (R4.ac.ow : Nat)) := h.cell 3
    have y2 : V.cell? ⟨g, 4, none⟩ = some (.int .u8 (R4.ac.gr : Nat)) := h.cell 4
    have y3 : V.cell? ⟨g, 9, none⟩ = some (.int .u8 (R4.ac.ms : Nat)) := h.cell 9
    have y4 : V.cell? ⟨g, 5, none⟩ = some (.int .u8 (R4.ac.ot : Nat)) := h.cell 5
    have y5 := h.c6
    have y6 := h.c10
    have y7 : V.cell? ⟨g, 17, none⟩ = some (.int .u8 (R4.df.ms : Nat)) := h.cell 17
    have y8 := h.c0
    rw [e1] at y1
    rw [e2] at y2
    rw [e3] at y3
    rw [e4] at y4
    rw [e5] at y5
    rw [e6] at y6
    rw [e7] at y7
    rw [e8] at y8
    exact ⟨y1, y2, y3, y4, y5, y6, y7, y8⟩)
  have bF : Hid (Cr.c F none 0 = Cr.c xF none 0) := Lib.hid (by rw [hF])
  have bP : Hid (At.c P alieZ = At.c xP alieZ) := Lib.hid (by rw [hP])
  have bO : Hid (∀ W : World, AOw W P alieZ) := Lib.hid (fun W => by rw [hP]; exact aow_x W)
  have bDo : Hid (∀ (W : World) (g : Nat), W.heap[g]? = some (.cells #[.int .u16 8, .int .u8 6] 53 (0, 0)) → LiesO W D ⟨some ⟨g, 0, none⟩, 1, none, 0⟩) := Lib.hid (fun W g h => by rw [hD]; exact ⟨own_one h, OwnR.nil _ _ _⟩)
  have bDc : Hid (∀ g : Nat, (Ac.c D ⟨some ⟨g, 0, none⟩, 1, none, 0⟩) = #[.int .u8 7, .int .u8 7, .int .u8 5, .slice (some ⟨g, 0, none⟩) 1 1, .slice none 0 0, .bool true, .int .u8 7]) := Lib.hid (fun g => by rw [hD]; rfl)
  clear hF hP hD hR1 hR2 hR3 hR4
  have HB := Lib.hid (Below.refl w.heap.size w)
  go_enter Try.func9, Try.ntmps9
  go_upto_region 1 with (fail)
  obtain ⟨C, hC⟩ : ∃ C, C = Cr.c F none 0 := ⟨_, rfl⟩
  have hone : C.all (·.oneCell') = true := by rw [hC, ← Array.all_toList]; rfl
  have hsz : (Try.prog.info? 25).map (·.size) = some C.size := by rw [hC]; exact cred_size
  have hold : (zCr : Array Value).size = C.size := by rw [hC]; rfl
  have HZn := Lib.hid (heap_alloc_new w (.cells zCr 25))
  obtain ⟨V1, hU⟩ : ∃ Zz, Zz = (w.alloc (.cells zCr 25)).setRow w.heap.size C := ⟨_, rfl⟩
  obtain ⟨f, hg⟩ : ∃ Zz, Zz = w.heap.size := ⟨_, rfl⟩
  have bu : Below w.heap.size w V1 := by rw [hU]; exact below_setRow ((Below.refl _ _).alloc (Nat.le_refl _) _) (Nat.le_refl _) _
  have Hf : Hid (Cb V1 f F none 0) := Lib.hid (by rw [hU, hg, hC]; exact setRow_heap _ _ _ _ _ _ (heap_alloc_new w _))
  have HB := Lib.hid (HB.out.trans (bu.mono HB.out.size))
  have HF0 : Hid (f < V1.heap.size) := Lib.hid Hf.out.lt
  have HZU := Lib.hid hU
  have bC : Hid (C = Cr.c xF none 0) := Lib.hid (by rw [hC, bF.out])
  clear hC bu hU
  go_upto_region 2 with (first
  | (refine wpList_store_rowTo rfl 25 (.tmp 1) (.tmp 13) rfl rfl w.heap.size C rfl rfl 25 _ HZn.out hsz hold hone ?_; rw [← HZU.out])
  | (refine wpList_buildTo rfl 25 _ rfl (some 13) rfl C (by rw [bC.out]; kernel_rfl) ?_))
  clear HZU HZn hsz hold hone bC
  have HGF : Hid (w.heap.size ≤ f) := Lib.hid (by omega)
  rw [← hg]
  clear hg
  go_wp2_with (fail)
  refine (rof_calls 493 V1 (by decide)).mono ?_
  rintro e w2 ⟨rfl, hb⟩
  have Hf := Lib.hid (Hf.out.on hb)
  have HB := Lib.hid (HB.out.trans (hb.mono HB.out.size))
  clear hb
  obtain ⟨C, hC⟩ : ∃ C, C = At.c (P) alieZ := ⟨_, rfl⟩
  have hone : C.all (·.oneCell') = true := by rw [hC]; exact c_one _ _
  have hsz : (Try.prog.info? 31).map (·.size) = some C.size := by rw [hC]; exact c_size _ _
  have hold : (zAt : Array Value).size = C.size := by rw [hC]; rfl
  have HZn := Lib.hid (heap_alloc_new w2 (.cells zAt 31))
  obtain ⟨V2, hU⟩ : ∃ Zz, Zz = (w2.alloc (.cells zAt 31)).setRow w2.heap.size C := ⟨_, rfl⟩
  obtain ⟨b, hg⟩ : ∃ Zz, Zz = w2.heap.size := ⟨_, rfl⟩
  have bu : Below w2.heap.size w2 V2 := by rw [hU]; exact put_below w2 C
  have Hb : Hid (Ho V2 b (P) alieZ) := Lib.hid (by rw [hU, hg, hC]; exact Ho.fresh (bO.out _))
  have HNf : Hid (f ≠ b) := Lib.hid (by have := Hf.out.lt; omega)
  have HGb : Hid (w.heap.size ≤ b) := Lib.hid (by have := HB.out.size; omega)
  have Hf := Lib.hid (Hf.out.on bu)
  have HB := Lib.hid (HB.out.trans (bu.mono HB.out.size))
  have HZU := Lib.hid hU
  have bPC : Hid (C = At.c xP alieZ) := Lib.hid (by rw [hC, bP.out])
  clear hC bu hU
  go_upto_region 3 with (first
    | (refine wpList_store_rowTo rfl 31 (.tmp 2) (.tmp 15) rfl rfl w2.heap.size C rfl rfl 31 _ HZn.out hsz hold hone ?_; rw [← HZU.out])
    | (refine wpList_buildTo rfl 31 _ rfl (some 15) rfl C (by rw [bPC.out]; kernel_rfl) ?_))
  clear HZU HZn hsz hold hone bPC
  rw [← hg]
  clear hg
  go_wp2_with (first
    | (refine wpList_load_part rfl 25 (.tmp 1) rfl f 0 rfl (Cr.c F none 0).toList _ (Hf.out).all Try.underlying25 rfl cred_size (Cr.v F none 0) rfl ?_)
    | (refine wpList_load_part rfl 31 (.tmp 2) rfl b 0 rfl (At.c (P) alieZ).toList _ (Hb.out.bt).bt0 Try.underlying31 rfl attr_size (At.v (P) alieZ) rfl ?_))
  refine (c1.out V2).mono ?_
  rintro e w3 ⟨q_w3, rfl, how, hb⟩
  have Hf := Lib.hid (Hf.out.on hb)
  have HB := Lib.hid (HB.out.trans (hb.mono HB.out.size))
  have Hb := Lib.hid (Hb.out.on hb)
  have HOW := Lib.hid how
  clear hb how c1
  obtain ⟨C, hC⟩ : ∃ C, C = At.c (R1) q_w3 := ⟨_, rfl⟩
  have hone : C.all (·.oneCell') = true := by rw [hC]; exact c_one _ _
  have hsz : (Try.prog.info? 31).map (·.size) = some C.size := by rw [hC]; exact c_size _ _
  have hold : (zAt : Array Value).size = C.size := by rw [hC]; rfl
  have HZn := Lib.hid (heap_alloc_new w3 (.cells zAt 31))
  obtain ⟨V3, hU⟩ : ∃ Zz, Zz = (w3.alloc (.cells zAt 31)).setRow w3.heap.size C := ⟨_, rfl⟩
  obtain ⟨ga, hg⟩ : ∃ Zz, Zz = w3.heap.size := ⟨_, rfl⟩
  have bu : Below w3.heap.size w3 V3 := by rw [hU]; exact put_below w3 C
  have Hga : Hid (Ho V3 ga (R1) q_w3) := Lib.hid (by rw [hU, hg, hC]; exact Ho.fresh (HOW.out))
  have HNga : Hid (ga ≠ b) := Lib.hid (by have := Hb.out.bt.lt; omega)
  have HGga : Hid (w.heap.size ≤ ga) := Lib.hid (by have := HB.out.size; omega)
  have Hf := Lib.hid (Hf.out.on bu)
  have HB := Lib.hid (HB.out.trans (bu.mono HB.out.size))
  have Hb := Lib.hid (Hb.out.on bu)
  have HZU := Lib.hid hU
  rw [show At.v (R1) q_w3 = .agg C by rw [hC]]
  clear hC bu hU
  go_upto_region 4 with (first
    | (refine wpList_store_rowTo rfl 31 (.tmp 3) (.tmp 20) rfl rfl w3.heap.size C rfl rfl 31 _ HZn.out hsz hold hone ?_; rw [← HZU.out]))
  clear HZU HZn hsz hold hone
  rw [← hg]
  clear hg
  go_wp2_with (first
    | (refine wpList_load_part rfl 25 (.tmp 1) rfl f 0 rfl (Cr.c F none 0).toList _ (Hf.out).all Try.underlying25 rfl cred_size (Cr.v F none 0) rfl ?_)
    | (refine wpList_load_part rfl 31 (.tmp 2) rfl b 0 rfl (At.c (P) alieZ).toList _ (Hb.out.bt).bt0 Try.underlying31 rfl attr_size (At.v (P) alieZ) rfl ?_))
  refine (c2.out V3).mono ?_
  rintro e w4 ⟨q_w4, rfl, how, hb⟩
  have Hf := Lib.hid (Hf.out.on hb)
  have HB := Lib.hid (HB.out.trans (hb.mono HB.out.size))
  have Hb := Lib.hid (Hb.out.on hb)
  have Hga := Lib.hid (Hga.out.on hb)
  have HOW := Lib.hid how
  clear hb how c2
  obtain ⟨C, hC⟩ : ∃ C, C = At.c (R2) q_w4 := ⟨_, rfl⟩
  have hone : C.all (·.oneCell') = true := by rw [hC]; exact c_one _ _
  have hsz : (Try.prog.info? 31).map (·.size) = some C.size := by rw [hC]; exact c_size _ _
  have hold : (zAt : Array Value).size = C.size := by rw [hC]; rfl
  have HZn := Lib.hid (heap_alloc_new w4 (.cells zAt 31))
  obtain ⟨V4, hU⟩ : ∃ Zz, Zz = (w4.alloc (.cells zAt 31)).setRow w4.heap.size C := ⟨_, rfl⟩
  obtain ⟨gb, hg⟩ : ∃ Zz, Zz = w4.heap.size := ⟨_, rfl⟩
  have bu : Below w4.heap.size w4 V4 := by rw [hU]; exact put_below w4 C
  have Hgb : Hid (Ho V4 gb (R2) q_w4) := Lib.hid (by rw [hU, hg, hC]; exact Ho.fresh (HOW.out))
  have HNgb : Hid (gb ≠ b) := Lib.hid (by have := Hb.out.bt.lt; omega)
  have HGgb : Hid (w.heap.size ≤ gb) := Lib.hid (by have := HB.out.size; omega)
  have Hf := Lib.hid (Hf.out.on bu)
  have HB := Lib.hid (HB.out.trans (bu.mono HB.out.size))
  have Hb := Lib.hid (Hb.out.on bu)
  have Hga := Lib.hid (Hga.out.on bu)
  have HZU := Lib.hid hU
  rw [show At.v (R2) q_w4 = .agg C by rw [hC]]
  clear hC bu hU
  go_upto_region 5 with (first
    | (refine wpList_store_rowTo rfl 31 (.tmp 5) (.tmp 26) rfl rfl w4.heap.size C rfl rfl 31 _ HZn.out hsz hold hone ?_; rw [← HZU.out]))
  clear HZU HZn hsz hold hone
  rw [← hg]
  clear hg
  obtain ⟨V5, hV5⟩ : ∃ Zz, Zz = World.setRow V4 b (At.c (withBi P 2) alieZ) := ⟨_, rfl⟩
  have Hfn : Hid (Cb (World.setRow V4 b (At.c (withBi P 2) alieZ)) f F none 0) := Lib.hid ((setRow_other _ _ _ _ HNf.out).trans Hf.out)
  have HBn := Lib.hid (below_setRow HB.out HGb.out (At.c (withBi P 2) alieZ))
  have Hgan := Lib.hid (Hga.out.other Hb.out.bt HNga.out (At.c (withBi P 2) alieZ))
  have Hgbn := Lib.hid (Hgb.out.other Hb.out.bt HNgb.out (At.c (withBi P 2) alieZ))
  have Hbn := Lib.hid (Hb.out.put (show AOw V4 (withBi P 2) alieZ from Hb.out.ow.bi 2))
  rw [← hV5] at Hfn HBn Hbn Hgan Hgbn
  go_upto_region 6 with (refine wpList_store_part rfl 5 (.tmp 28) (.const (.int .u8 2)) rfl rfl b 0 [.int .u8 2] rfl rfl 31 _ Hb.out.bt u8_size (Nat.le_of_ble_eq_true rfl) (one_of rfl) (At.c (withBi P 2) alieZ) rfl ?_; rw [← hV5])
  clear hV5 Hf HB Hb Hga Hgb
  have Hf := Hfn
  have HB := HBn
  have Hb := Hbn
  have Hga := Hgan
  have Hgb := Hgbn
  clear Hfn HBn Hbn Hgan Hgbn
  go_wp2_with (first
    | (refine wpList_load_part rfl 25 (.tmp 1) rfl f 0 rfl (Cr.c F none 0).toList _ (Hf.out).all Try.underlying25 rfl cred_size (Cr.v F none 0) rfl ?_)
    | (refine wpList_load_part rfl 31 (.tmp 2) rfl b 0 rfl (At.c (withBi P 2) alieZ).toList _ (Hb.out.bt).bt0 Try.underlying31 rfl attr_size (At.v (withBi P 2) alieZ) rfl ?_))
  refine (c3.out V5).mono ?_
  rintro e w6 ⟨q_w6, rfl, how, hb⟩
  have Hf := Lib.hid (Hf.out.on hb)
  have HB := Lib.hid (HB.out.trans (hb.mono HB.out.size))
  have Hb := Lib.hid (Hb.out.on hb)
  have Hga := Lib.hid (Hga.out.on hb)
  have Hgb := Lib.hid (Hgb.out.on hb)
  have HOW := Lib.hid how
  clear hb how c3
  obtain ⟨C, hC⟩ : ∃ C, C = At.c (R3) q_w6 := ⟨_, rfl⟩
  have hone : C.all (·.oneCell') = true := by rw [hC]; exact c_one _ _
  have hsz : (Try.prog.info? 31).map (·.size) = some C.size := by rw [hC]; exact c_size _ _
  have hold : (zAt : Array Value).size = C.size := by rw [hC]; rfl
  have HZn := Lib.hid (heap_alloc_new w6 (.cells zAt 31))
  obtain ⟨V6, hU⟩ : ∃ Zz, Zz = (w6.alloc (.cells zAt 31)).setRow w6.heap.size C := ⟨_, rfl⟩
  obtain ⟨gc, hg⟩ : ∃ Zz, Zz = w6.heap.size := ⟨_, rfl⟩
  have bu : Below w6.heap.size w6 V6 := by rw [hU]; exact put_below w6 C
  have Hgc : Hid (Ho V6 gc (R3) q_w6) := Lib.hid (by rw [hU, hg, hC]; exact Ho.fresh (HOW.out))
  have HNgc : Hid (gc ≠ b) := Lib.hid (by have := Hb.out.bt.lt; omega)
  have HGgc : Hid (w.heap.size ≤ gc) := Lib.hid (by have := HB.out.size; omega)
  have Hf := Lib.hid (Hf.out.on bu)
  have HB := Lib.hid (HB.out.trans (bu.mono HB.out.size))
  have Hb := Lib.hid (Hb.out.on bu)
  have Hga := Lib.hid (Hga.out.on bu)
  have Hgb := Lib.hid (Hgb.out.on bu)
  have HZU := Lib.hid hU
  rw [show At.v (R3) q_w6 = .agg C by rw [hC]]
  clear hC bu hU
  go_upto_region 7 with (first
    | (refine wpList_store_rowTo rfl 31 (.tmp 7) (.tmp 33) rfl rfl w6.heap.size C rfl rfl 31 _ HZn.out hsz hold hone ?_; rw [← HZU.out]))
  clear HZU HZn hsz hold hone
  rw [← hg]
  clear hg
  obtain ⟨V7, hV7⟩ : ∃ Zz, Zz = World.setRow V6 b (At.c (withDf (withBi P 2) true (withBi P 2).df) alieZ) := ⟨_, rfl⟩
  have Hfn : Hid (Cb (World.setRow V6 b (At.c (withDf (withBi P 2) true (withBi P 2).df) alieZ)) f F none 0) := Lib.hid ((setRow_other _ _ _ _ HNf.out).trans Hf.out)
  have HBn := Lib.hid (below_setRow HB.out HGb.out (At.c (withDf (withBi P 2) true (withBi P 2).df) alieZ))
  have Hgan := Lib.hid (Hga.out.other Hb.out.bt HNga.out (At.c (withDf (withBi P 2) true (withBi P 2).df) alieZ))
  have Hgbn := Lib.hid (Hgb.out.other Hb.out.bt HNgb.out (At.c (withDf (withBi P 2) true (withBi P 2).df) alieZ))
  have Hgcn := Lib.hid (Hgc.out.other Hb.out.bt HNgc.out (At.c (withDf (withBi P 2) true (withBi P 2).df) alieZ))
  have Hbn := Lib.hid (Hb.out.put (show AOw V6 (withDf (withBi P 2) true (withBi P 2).df) alieZ from Hb.out.ow.dfl true Hb.out.ow.df))
  rw [← hV7] at Hfn HBn Hbn Hgan Hgbn Hgcn
  go_upto_region 8 with (refine wpList_store_part rfl 4 (.tmp 35) (.const (.bool true)) rfl rfl b 10 [.bool true] rfl rfl 31 _ Hb.out.bt bool_size (Nat.le_of_ble_eq_true rfl) (one_of rfl) (At.c (withDf (withBi P 2) true (withBi P 2).df) alieZ) rfl ?_; rw [← hV7])
  clear hV7 Hf HB Hb Hga Hgb Hgc
  have Hf := Hfn
  have HB := HBn
  have Hb := Hbn
  have Hga := Hgan
  have Hgb := Hgbn
  have Hgc := Hgcn
  clear Hfn HBn Hbn Hgan Hgbn Hgcn
  obtain ⟨gu, hgu⟩ : ∃ z, V7.heap.size = z := ⟨_, rfl⟩
  have bu : Below V7.heap.size V7 (V7.alloc (.cells #[.int .u16 8, .int .u8 6] 53)) := (Below.refl _ _).alloc (Nat.le_refl _) _
  have Hf := Lib.hid (Hf.out.on bu)
  have HB := Lib.hid (HB.out.trans (bu.mono HB.out.size))
  have Hb := Lib.hid (Hb.out.on bu)
  have Hga := Lib.hid (Hga.out.on bu)
  have Hgb := Lib.hid (Hgb.out.on bu)
  have Hgc := Lib.hid (Hgc.out.on bu)
  have hnu := heap_alloc_new V7 (.cells #[.int .u16 8, .int .u8 6] 53)
  rw [hgu] at hnu
  have HDO := Lib.hid (bDo.out _ gu hnu)
  clear bu hnu
  obtain ⟨V8, hV8⟩ : ∃ Zz, Zz = World.setRow (V7.alloc (.cells #[.int .u16 8, .int .u8 6] 53)) b (At.c (withDf (withBi P 2) true D) ⟨lieZ, ⟨some ⟨gu, 0, none⟩, 1, none, 0⟩, none, 0⟩) := ⟨_, rfl⟩
  have Hfn : Hid (Cb (World.setRow (V7.alloc (.cells #[.int .u16 8, .int .u8 6] 53)) b (At.c (withDf (withBi P 2) true D) ⟨lieZ, ⟨some ⟨gu, 0, none⟩, 1, none, 0⟩, none, 0⟩)) f F none 0) := Lib.hid ((setRow_other _ _ _ _ HNf.out).trans Hf.out)
  have HBn := Lib.hid (below_setRow HB.out HGb.out (At.c (withDf (withBi P 2) true D) ⟨lieZ, ⟨some ⟨gu, 0, none⟩, 1, none, 0⟩, none, 0⟩))
  have Hgan := Lib.hid (Hga.out.other Hb.out.bt HNga.out (At.c (withDf (withBi P 2) true D) ⟨lieZ, ⟨some ⟨gu, 0, none⟩, 1, none, 0⟩, none, 0⟩))
  have Hgbn := Lib.hid (Hgb.out.other Hb.out.bt HNgb.out (At.c (withDf (withBi P 2) true D) ⟨lieZ, ⟨some ⟨gu, 0, none⟩, 1, none, 0⟩, none, 0⟩))
  have Hgcn := Lib.hid (Hgc.out.other Hb.out.bt HNgc.out (At.c (withDf (withBi P 2) true D) ⟨lieZ, ⟨some ⟨gu, 0, none⟩, 1, none, 0⟩, none, 0⟩))
  have Hbn := Lib.hid (Hb.out.put (show AOw (V7.alloc (.cells #[.int .u16 8, .int .u8 6] 53)) (withDf (withBi P 2) true D) ⟨lieZ, ⟨some ⟨gu, 0, none⟩, 1, none, 0⟩, none, 0⟩ from Hb.out.ow.dfl true HDO.out))
  rw [← hV8] at Hfn HBn Hbn Hgan Hgbn Hgcn
  go_upto_region 9 with (refine wpList_store_part rfl 28 (.tmp 39) (.tmp 38) rfl rfl b 11 (Ac.c D ⟨some ⟨gu, 0, none⟩, 1, none, 0⟩).toList rfl (by rw [bDc.out gu, ← hgu]; rfl) 31 _ Hb.out.bt acl_size (Nat.le_of_ble_eq_true rfl) (acl_one _ _) (At.c (withDf (withBi P 2) true D) ⟨lieZ, ⟨some ⟨gu, 0, none⟩, 1, none, 0⟩, none, 0⟩) rfl ?_; rw [← hV8])
  clear hV8 Hf HB Hb Hga Hgb Hgc
  have Hf := Hfn
  have HB := HBn
  have Hb := Hbn
  have Hga := Hgan
  have Hgb := Hgbn
  have Hgc := Hgcn
  clear Hfn HBn Hbn Hgan Hgbn Hgcn
  clear HDO bDo bDc hgu
  go_wp2_with (first
    | (refine wpList_load_part rfl 25 (.tmp 1) rfl f 0 rfl (Cr.c F none 0).toList _ (Hf.out).all Try.underlying25 rfl cred_size (Cr.v F none 0) rfl ?_)
    | (refine wpList_load_part rfl 31 (.tmp 2) rfl b 0 rfl (At.c (withDf (withBi P 2) true D) ⟨lieZ, ⟨some ⟨gu, 0, none⟩, 1, none, 0⟩, none, 0⟩).toList _ (Hb.out.bt).bt0 Try.underlying31 rfl attr_size (At.v (withDf (withBi P 2) true D) ⟨lieZ, ⟨some ⟨gu, 0, none⟩, 1, none, 0⟩, none, 0⟩) rfl ?_))
  refine (c4.out ⟨lieZ, ⟨some ⟨gu, 0, none⟩, 1, none, 0⟩, none, 0⟩ V8 Hb.out.li).mono ?_
  rintro e w9 ⟨q_w9, rfl, how, hb⟩
  have Hf := Lib.hid (Hf.out.on hb)
  have HB := Lib.hid (HB.out.trans (hb.mono HB.out.size))
  have Hb := Lib.hid (Hb.out.on hb)
  have Hga := Lib.hid (Hga.out.on hb)
  have Hgb := Lib.hid (Hgb.out.on hb)
  have Hgc := Lib.hid (Hgc.out.on hb)
  have HOW := Lib.hid how
  clear hb how c4
  obtain ⟨C, hC⟩ : ∃ C, C = At.c (R4) q_w9 := ⟨_, rfl⟩
  have hone : C.all (·.oneCell') = true := by rw [hC]; exact c_one _ _
  have hsz : (Try.prog.info? 31).map (·.size) = some C.size := by rw [hC]; exact c_size _ _
  have hold : (zAt : Array Value).size = C.size := by rw [hC]; rfl
  have HZn := Lib.hid (heap_alloc_new w9 (.cells zAt 31))
  obtain ⟨V9, hU⟩ : ∃ Zz, Zz = (w9.alloc (.cells zAt 31)).setRow w9.heap.size C := ⟨_, rfl⟩
  obtain ⟨gx, hg⟩ : ∃ Zz, Zz = w9.heap.size := ⟨_, rfl⟩
  have bu : Below w9.heap.size w9 V9 := by rw [hU]; exact put_below w9 C
  have Hgx : Hid (Ho V9 gx (R4) q_w9) := Lib.hid (by rw [hU, hg, hC]; exact Ho.fresh (HOW.out))
  have HGgx : Hid (w.heap.size ≤ gx) := Lib.hid (by have := HB.out.size; omega)
  have Hf := Lib.hid (Hf.out.on bu)
  have HB := Lib.hid (HB.out.trans (bu.mono HB.out.size))
  have Hb := Lib.hid (Hb.out.on bu)
  have Hga := Lib.hid (Hga.out.on bu)
  have Hgb := Lib.hid (Hgb.out.on bu)
  have Hgc := Lib.hid (Hgc.out.on bu)
  have HZU := Lib.hid hU
  rw [show At.v (R4) q_w9 = .agg C by rw [hC]]
  clear hC bu hU
  go_upto_region 10 with (first
    | (refine wpList_store_rowTo rfl 31 (.tmp 9) (.tmp 44) rfl rfl w9.heap.size C rfl rfl 31 _ HZn.out hsz hold hone ?_; rw [← HZU.out]))
  clear HZU HZn hsz hold hone
  rw [← hg]
  clear hg
  go_wp2_with (first
    | (refine wpList_load_part rfl 25 (.tmp 1) rfl f 0 rfl (Cr.c F none 0).toList _ (Hf.out).all Try.underlying25 rfl cred_size (Cr.v F none 0) rfl ?_)
    | (refine wpList_load_part rfl 31 (.tmp 2) rfl b 0 rfl (At.c (withDf (withBi P 2) true D) ⟨lieZ, ⟨some ⟨gu, 0, none⟩, 1, none, 0⟩, none, 0⟩).toList _ (Hb.out.bt).bt0 Try.underlying31 rfl attr_size (At.v (withDf (withBi P 2) true D) ⟨lieZ, ⟨some ⟨gu, 0, none⟩, 1, none, 0⟩, none, 0⟩) rfl ?_))
  refine (c5.out ⟨lieZ, ⟨some ⟨gu, 0, none⟩, 1, none, 0⟩, none, 0⟩ V9 Hb.out.li).mono ?_
  rintro e w10 ⟨q_w10, rfl, how, hb⟩
  have Hf := Lib.hid (Hf.out.on hb)
  have HB := Lib.hid (HB.out.trans (hb.mono HB.out.size))
  have Hb := Lib.hid (Hb.out.on hb)
  have Hga := Lib.hid (Hga.out.on hb)
  have Hgb := Lib.hid (Hgb.out.on hb)
  have Hgc := Lib.hid (Hgc.out.on hb)
  have Hgx := Lib.hid (Hgx.out.on hb)
  have HOW := Lib.hid how
  clear hb how c5
  obtain ⟨C, hC⟩ : ∃ C, C = At.c (atZ) q_w10 := ⟨_, rfl⟩
  have hone : C.all (·.oneCell') = true := by rw [hC]; exact c_one _ _
  have hsz : (Try.prog.info? 31).map (·.size) = some C.size := by rw [hC]; exact c_size _ _
  have hold : (zAt : Array Value).size = C.size := by rw [hC]; rfl
  have HZn := Lib.hid (heap_alloc_new w10 (.cells zAt 31))
  obtain ⟨V10, hU⟩ : ∃ Zz, Zz = (w10.alloc (.cells zAt 31)).setRow w10.heap.size C := ⟨_, rfl⟩
  obtain ⟨gy, hg⟩ : ∃ Zz, Zz = w10.heap.size := ⟨_, rfl⟩
  have bu : Below w10.heap.size w10 V10 := by rw [hU]; exact put_below w10 C
  have Hgy : Hid (Ho V10 gy (atZ) q_w10) := Lib.hid (by rw [hU, hg, hC]; exact Ho.fresh (HOW.out))
  have HGgy : Hid (w.heap.size ≤ gy) := Lib.hid (by have := HB.out.size; omega)
  have Hf := Lib.hid (Hf.out.on bu)
  have HB := Lib.hid (HB.out.trans (bu.mono HB.out.size))
  have Hb := Lib.hid (Hb.out.on bu)
  have Hga := Lib.hid (Hga.out.on bu)
  have Hgb := Lib.hid (Hgb.out.on bu)
  have Hgc := Lib.hid (Hgc.out.on bu)
  have Hgx := Lib.hid (Hgx.out.on bu)
  have HZU := Lib.hid hU
  rw [show At.v (atZ) q_w10 = .agg C by rw [hC]]
  clear hC bu hU
  go_upto_region 11 with (refine wpList_store_rowTo rfl 31 (.tmp 11) (.tmp 50) rfl rfl w10.heap.size C rfl rfl 31 _ HZn.out hsz hold hone ?_; rw [← HZU.out]; rw [← hg])
  clear HZU HZn hsz hold hone
  simp only [List.append_eq, List.cons_append, List.nil_append]
  have y1 := x1.out _ _ _ Hga.out.bt
  have y3 := x3.out _ _ _ Hgc.out.bt
  obtain ⟨z1, z2, z3, z4, z5, z6, z7, z8⟩ := x4.out _ _ _ Hgx.out.bt
  go_wp2_with (first
    | (refine wpList_load_part rfl 31 (.tmp 3) rfl ga 0 rfl (At.c R1 q_w3).toList _ (Hga.out.bt).bt0 Try.underlying31 rfl attr_size (At.v R1 q_w3) rfl ?_)
    | (refine wpList_load_part rfl 31 (.tmp 5) rfl gb 0 rfl (At.c R2 q_w4).toList _ (Hgb.out.bt).bt0 Try.underlying31 rfl attr_size (At.v R2 q_w4) rfl ?_)
    | (refine wpList_load_part rfl 31 (.tmp 7) rfl gc 0 rfl (At.c R3 q_w6).toList _ (Hgc.out.bt).bt0 Try.underlying31 rfl attr_size (At.v R3 q_w6) rfl ?_))
  refine (c6.out q_w3 V10).mono ?_
  rintro e u6 ⟨rfl, hb⟩
  have Hf := Lib.hid (Hf.out.on hb)
  have HB := Lib.hid (HB.out.trans (hb.mono HB.out.size))
  have Hb := Lib.hid (Hb.out.on hb)
  have Hga := Lib.hid (Hga.out.on hb)
  have Hgb := Lib.hid (Hgb.out.on hb)
  have Hgc := Lib.hid (Hgc.out.on hb)
  have Hgx := Lib.hid (Hgx.out.on hb)
  have Hgy := Lib.hid (Hgy.out.on hb)
  clear hb y1 y3 z1 z2 z3 z4 z5 z6 z7 z8
  have y1 := x1.out _ _ _ Hga.out.bt
  have y3 := x3.out _ _ _ Hgc.out.bt
  obtain ⟨z1, z2, z3, z4, z5, z6, z7, z8⟩ := x4.out _ _ _ Hgx.out.bt
  go_wp2_with (first
    | (refine wpList_load_part rfl 31 (.tmp 3) rfl ga 0 rfl (At.c R1 q_w3).toList _ (Hga.out.bt).bt0 Try.underlying31 rfl attr_size (At.v R1 q_w3) rfl ?_)
    | (refine wpList_load_part rfl 31 (.tmp 5) rfl gb 0 rfl (At.c R2 q_w4).toList _ (Hgb.out.bt).bt0 Try.underlying31 rfl attr_size (At.v R2 q_w4) rfl ?_)
    | (refine wpList_load_part rfl 31 (.tmp 7) rfl gc 0 rfl (At.c R3 q_w6).toList _ (Hgc.out.bt).bt0 Try.underlying31 rfl attr_size (At.v R3 q_w6) rfl ?_))
  refine (c7.out q_w4 u6).mono ?_
  rintro e u7 ⟨rfl, hb⟩
  have Hf := Lib.hid (Hf.out.on hb)
  have HB := Lib.hid (HB.out.trans (hb.mono HB.out.size))
  have Hb := Lib.hid (Hb.out.on hb)
  have Hga := Lib.hid (Hga.out.on hb)
  have Hgb := Lib.hid (Hgb.out.on hb)
  have Hgc := Lib.hid (Hgc.out.on hb)
  have Hgx := Lib.hid (Hgx.out.on hb)
  have Hgy := Lib.hid (Hgy.out.on hb)
  clear hb y1 y3 z1 z2 z3 z4 z5 z6 z7 z8
  have y1 := x1.out _ _ _ Hga.out.bt
  have y3 := x3.out _ _ _ Hgc.out.bt
  obtain ⟨z1, z2, z3, z4, z5, z6, z7, z8⟩ := x4.out _ _ _ Hgx.out.bt
  go_wp2_with (first
    | (refine wpList_load_part rfl 31 (.tmp 3) rfl ga 0 rfl (At.c R1 q_w3).toList _ (Hga.out.bt).bt0 Try.underlying31 rfl attr_size (At.v R1 q_w3) rfl ?_)
    | (refine wpList_load_part rfl 31 (.tmp 5) rfl gb 0 rfl (At.c R2 q_w4).toList _ (Hgb.out.bt).bt0 Try.underlying31 rfl attr_size (At.v R2 q_w4) rfl ?_)
    | (refine wpList_load_part rfl 31 (.tmp 7) rfl gc 0 rfl (At.c R3 q_w6).toList _ (Hgc.out.bt).bt0 Try.underlying31 rfl attr_size (At.v R3 q_w6) rfl ?_))
  refine (c8.out q_w6 u7).mono ?_
  rintro e u8 ⟨rfl, hb⟩
  have Hf := Lib.hid (Hf.out.on hb)
  have HB := Lib.hid (HB.out.trans (hb.mono HB.out.size))
  have Hb := Lib.hid (Hb.out.on hb)
  have Hga := Lib.hid (Hga.out.on hb)
  have Hgb := Lib.hid (Hgb.out.on hb)
  have Hgc := Lib.hid (Hgc.out.on hb)
  have Hgx := Lib.hid (Hgx.out.on hb)
  have Hgy := Lib.hid (Hgy.out.on hb)
  clear hb y1 y3 z1 z2 z3 z4 z5 z6 z7 z8
  have y1 := x1.out _ _ _ Hga.out.bt
  have y3 := x3.out _ _ _ Hgc.out.bt
  obtain ⟨z1, z2, z3, z4, z5, z6, z7, z8⟩ := x4.out _ _ _ Hgx.out.bt
  go_wp2_with (first
    | (refine wpList_load_part rfl 31 (.tmp 3) rfl ga 0 rfl (At.c R1 q_w3).toList _ (Hga.out.bt).bt0 Try.underlying31 rfl attr_size (At.v R1 q_w3) rfl ?_)
    | (refine wpList_load_part rfl 31 (.tmp 5) rfl gb 0 rfl (At.c R2 q_w4).toList _ (Hgb.out.bt).bt0 Try.underlying31 rfl attr_size (At.v R2 q_w4) rfl ?_)
    | (refine wpList_load_part rfl 31 (.tmp 7) rfl gc 0 rfl (At.c R3 q_w6).toList _ (Hgc.out.bt).bt0 Try.underlying31 rfl attr_size (At.v R3 q_w6) rfl ?_))
  go_ret
  exact ⟨rfl, HB.out⟩
end Go.Proofs.Ytgdiiicaljidpaa
