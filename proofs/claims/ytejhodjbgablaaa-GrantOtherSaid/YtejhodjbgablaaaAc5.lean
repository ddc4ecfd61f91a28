/- Copies, and which lists are the same. -/
import Derived.Test.YtejhodjbgablaaaAc2
import Derived.Deep.DeepCutAuto
set_option linter.unusedSimpArgs false
set_option linter.unusedVariables false
namespace Go.Proofs.Ytejhodjbgablaaa
open Go.RowKit
/-- The rows of a copy (made at w): the call's own, apart. -/
structure Copied (w w' : World) (x : Ac) (p : Lie) : Prop where
  us : Mine w w' p.A x.us.length p.c x.us
  gs : Mine w w' p.B x.gs.length p.d x.gs
  ne : ∀ a b, p.A = some a → p.B = some b → a.block ≠ b.block
theorem Copied.lies {w w' : World} {x : Ac} {p : Lie} (h : Copied w w' x p) : Lies w' x p := ⟨h.us.cel, h.gs.cel⟩
theorem Mine.on {w w' w'' : World} {A : Option Addr} {n c : Nat} {L : List Nm} (h : Mine w w' A n c L) (hb : Below w'.heap.size w' w'') : Mine w w'' A n c L :=
  ⟨h.1.keep fun ad e => hb.block _ (h.1.lt ad e), h.2⟩
theorem Mine.from {v w w' : World} {A : Option Addr} {n c : Nat} {L : List Nm} (h : Mine w w' A n c L) (hb : v.heap.size ≤ w.heap.size) : Mine v w' A n c L :=
  ⟨h.1, fun ad e => Nat.le_trans hb (h.2 ad e)⟩
theorem Copied.on {w w' w'' : World} {x : Ac} {p : Lie} (h : Copied w w' x p) (hb : Below w'.heap.size w' w'') : Copied w w'' x p := ⟨h.us.on hb, h.gs.on hb, h.ne⟩
theorem Copied.from {v w w' : World} {x : Ac} {p : Lie} (h : Copied w w' x p) (hb : v.heap.size ≤ w.heap.size) : Copied v w' x p := ⟨h.us.from hb, h.gs.from hb, h.ne⟩
/-- Two rows, made one behind the other. -/
theorem Copied.of {w w1 w2 w3 : World} {x : Ac} {p : Lie} (h1 : Mine w w1 p.A x.us.length p.c x.us) (h12 : Below w1.heap.size w1 w2) (h2 : Mine w2 w3 p.B x.gs.length p.d x.gs) (h23 : Below w2.heap.size w2 w3) (h0 : w.heap.size ≤ w1.heap.size) : Copied w w3 x p :=
  ⟨(h1.on h12).on h23, h2.from (Nat.le_trans h0 h12.size), fun a b ha hb e => by
    have := h1.1.lt a ha
    have := h2.2 b hb
    have := h12.size
    omega⟩
/-- No list: what a result begins as. -/
abbrev acZ : Ac := ⟨0, 0, 0, [], [], false, 0⟩
abbrev lieZ : Lie := ⟨none, 0, none, 0⟩
section
variable {w w' : World} {b : Nat} {x : Ac} {p : Lie}
theorem Ab.set3 (h : Ab w b x p) (A : Option Addr) (c : Nat) : Ab (w.setCell ⟨b, 3, none⟩ (.slice A x.us.length c)) b x ⟨A, c, p.B, p.d⟩ := by
  unfold Ab at h ⊢
  exact heap_setCell_same _ _ _ _ _ _ h
theorem Ab.set4 (h : Ab w b x p) (B : Option Addr) (d : Nat) : Ab (w.setCell ⟨b, 4, none⟩ (.slice B x.gs.length d)) b x ⟨p.A, p.c, B, d⟩ := by
  unfold Ab at h ⊢
  exact heap_setCell_same _ _ _ _ _ _ h
theorem Ab.other (h : Ab w b x p) {a : Addr} (v : Value) (hne : b ≠ a.block) : Ab (w.setCell a v) b x p := by
  unfold Ab at h ⊢
  rw [Below.heap_setCell w a v b hne]
  exact h
/-- A cell of a block b turned: rows elsewhere stay. -/
theorem Cel.other {A : Option Addr} {xs : List Value} (h : Cel w A xs) {a : Addr} (v : Value) (hne : ∀ ad, A = some ad → 0 < xs.length → ad.block ≠ a.block) : Cel (w.setCell a v) A xs := fun h0 => by
  obtain ⟨ad, e, hl, hc⟩ := h h0
  have hn := hne ad e h0
  exact ⟨ad, e, by simpa [World.setCell] using hl, fun j u hu => (World.cell?_of_block (by rw [add_block]; exact Below.heap_setCell w a v ad.block hn)).trans (hc j u hu)⟩
theorem Mine.other {A : Option Addr} {n c : Nat} {L : List Nm} (h : Mine w w' A n c L) {a : Addr} (v : Value) (hne : ∀ ad, A = some ad → ad.block ≠ a.block) : Mine w (w'.setCell a v) A n c L :=
  ⟨h.1.keep fun ad e => Below.heap_setCell w' a v ad.block (hne ad e), h.2⟩
theorem Ab.two (w : World) (x : Ac) (p : Lie) : Ab ((w.alloc (.cells (x.c p) 28)).alloc (.cells (acZ.c lieZ) 28)) w.heap.size x p ∧ Ab ((w.alloc (.cells (x.c p) 28)).alloc (.cells (acZ.c lieZ) 28)) (w.heap.size + 1) acZ lieZ :=
  ⟨(Ab.new w x p).on ((Below.refl _ _).alloc (Nat.le_refl _) _), by have h := Ab.new (w.alloc (.cells (x.c p) 28)) acZ lieZ; rwa [World.size_alloc] at h⟩
end
section
variable {w w' : World} {b : Nat} {x0 : Ac} {p0 : Lie}
/-- All of a list, stored over another. -/
abbrev setAll (w : World) (b : Nat) (x : Ac) (p : Lie) : World := (((((((w.setCell ⟨b, 0, none⟩ (.int .u8 (x.ow : Nat))).setCell ⟨b, 1, none⟩ (.int .u8 (x.gr : Nat))).setCell ⟨b, 2, none⟩ (.int .u8 (x.ot : Nat))).setCell ⟨b, 3, none⟩ (.slice p.A x.us.length p.c)).setCell ⟨b, 4, none⟩ (.slice p.B x.gs.length p.d)).setCell ⟨b, 5, none⟩ (.bool x.hm)).setCell ⟨b, 6, none⟩ (.int .u8 (x.ms : Nat)))
theorem set_cell {cs : Array Value} {t : TypeId} {w : World} (h : w.heap[b]? = some (.cells cs t (0, 0))) (k : Nat) (v : Value) : (w.setCell ⟨b, k, none⟩ v).heap[b]? = some (.cells (cs.setIfInBounds k v) t (0, 0)) := by
  simp [World.setCell, Array.getElem?_modify, h]
theorem Ab.all (h : Ab w b x0 p0) (x : Ac) (p : Lie) : Ab (setAll w b x p) b x p := by
  have h7 := set_cell (set_cell (set_cell (set_cell (set_cell (set_cell (set_cell h 0 (.int .u8 (x.ow : Nat))) 1 (.int .u8 (x.gr : Nat))) 2 (.int .u8 (x.ot : Nat))) 3 (.slice p.A x.us.length p.c)) 4 (.slice p.B x.gs.length p.d)) 5 (.bool x.hm)) 6 (.int .u8 (x.ms : Nat))
  unfold Ab
  simpa using h7
theorem below_all {k : Nat} {p : Lie} (h : Below k w w') (hb : k ≤ b) (x : Ac) : Below k w (setAll w' b x p) :=
  ((((((h.setCell hb _).setCell hb _).setCell hb _).setCell hb _).setCell hb _).setCell hb _).setCell hb _
theorem Mine.all {A : Option Addr} {n c : Nat} {L : List Nm} (h : Mine w w' A n c L) (x : Ac) (p : Lie) (hne : ∀ ad, A = some ad → ad.block ≠ b) : Mine w (setAll w' b x p) A n c L :=
  ((((((h.other _ hne).other _ hne).other _ hne).other _ hne).other _ hne).other _ hne).other _ hne
theorem Copied.all {y : Ac} {q : Lie} (h : Copied w w' y q) (x : Ac) (p : Lie) (h1 : ∀ ad, q.A = some ad → ad.block ≠ b) (h2 : ∀ ad, q.B = some ad → ad.block ≠ b) : Copied w (setAll w' b x p) y q := ⟨h.us.all x p h1, h.gs.all x p h2, h.ne⟩
theorem Ab.others (h : Ab w b x0 p0) {g : Nat} (x : Ac) (p : Lie) (hne : b ≠ g) : Ab (setAll w g x p) b x0 p0 :=
  ((((((h.other _ hne).other _ hne).other _ hne).other _ hne).other _ hne).other _ hne).other _ hne
end
abbrev zC : Array Value := #[.int .u8 0, .int .u8 0, .int .u8 0, .slice none 0 0, .slice none 0 0, .bool false, .int .u8 0]
/-- A block that holds nothing yet. -/
def Zb (w : World) (b : Nat) : Prop := w.heap[b]? = some (.cells zC 28 (0, 0))
theorem Zb.ab {w : World} {b : Nat} (h : Zb w b) : Ab w b acZ lieZ := h
set_option maxRecDepth 100000 in
theorem rcopy_calls (x : Ac) (p : Lie) (w : World) (h : Lies w x p) (hs : Sm x) : Calls Try.prog 27 #[x.v p] w fun e w' => ∃ q, e = .returned (x.v q) ∧ Copied w w' x q ∧ Below w.heap.size w w' := by
  obtain ⟨ow, gr, ot, us, gs, hm, ms⟩ := x
  obtain ⟨A, c, B, d⟩ := p
  obtain ⟨U, hU⟩ : ∃ U, U = (w.alloc (.cells #[.int .u8 (ow : Nat), .int .u8 (gr : Nat), .int .u8 (ot : Nat), .slice A us.length c, .slice B gs.length d, .bool hm, .int .u8 (ms : Nat)] 28)).alloc (.cells zC 28) := ⟨_, rfl⟩
  obtain ⟨z1, z2⟩ := Ab.two w ⟨ow, gr, ot, us, gs, hm, ms⟩ ⟨A, c, B, d⟩
  replace z1 : Ab U w.heap.size ⟨ow, gr, ot, us, gs, hm, ms⟩ ⟨A, c, B, d⟩ := by rw [hU]; exact z1
  replace z2 : Ab U (w.heap.size + 1) acZ lieZ := by rw [hU]; exact z2
  have hb : Below w.heap.size w U := by rw [hU]; exact ((Below.refl _ _).alloc (Nat.le_refl _) _).alloc (by simp) _
  have hsz : U.heap.size = w.heap.size + 2 := by rw [hU]; simp
  obtain ⟨HU, HG⟩ := h.below hb
  obtain ⟨s1, s2⟩ := hs
  simp only at HU HG s1 s2
  have H0 := Lib.hid h.gs
  clear h
  have HZ := Lib.hid hsz
  have HB := Lib.hid hb
  clear hsz hb
  go_enter Try.func27, Try.ntmps27
  go_upto_region 1 with (fail)
  rw [← hU]
  clear hU
  obtain ⟨_, _, _, y3, y4, _, _⟩ := z1.cells
  have Z1 := Lib.hid z1
  have Z2 := Lib.hid z2
  clear z1 z2
  go_upto_region 2 with (at_builtin; refine wpList_ncl rfl (.const (.slice none 0 0)) (.tmp 4) rfl A us c rfl rfl HU s1 ?_; intro A1 c1 w1 hM1 hb1; have z := Z1.out.on hb1; have y3 := z.cell 3; have f3 := z.frozen 3; have HB1 := Lib.hid hb1; have HM1 := Lib.hid hM1; clear z hb1 hM1)
  clear y3 y4 f3
  obtain ⟨U2, hU2⟩ : ∃ U2, U2 = w1.setCell ⟨w.heap.size, 3, none⟩ (.slice A1 us.length c1) := ⟨_, rfl⟩
  rw [← hU2]
  have s12 := HB1.out.size
  have z1 : Ab U2 w.heap.size ⟨ow, gr, ot, us, gs, hm, ms⟩ ⟨A1, c1, B, d⟩ := by rw [hU2]; exact (Z1.out.on HB1.out).set3 A1 c1
  have z2 : Ab U2 (w.heap.size + 1) acZ lieZ := by rw [hU2]; exact (Z2.out.on HB1.out).other _ (by show w.heap.size + 1 ≠ w.heap.size; omega)
  have hb2 : Below w.heap.size w U2 := by rw [hU2]; exact (HB.out.trans (HB1.out.mono HB.out.size)).setCell (Nat.le_refl _) _
  have hb12 : U2.heap.size = w1.heap.size := by rw [hU2]; simp [World.setCell]
  have hM2 : Mine U U2 A1 us.length c1 us := by rw [hU2]; exact HM1.out.other _ (fun ad e => by have := HM1.out.2 ad e; have := HZ.out; show ad.block ≠ w.heap.size; omega)
  have hG2 : Cel U2 B (nv gs) := by rw [hU2]; exact (HG.below HB1.out).other _ (fun ad e h0 => by
    obtain ⟨ad', e', hl, _⟩ := H0.out h0
    rw [e] at e'; injection e' with e'; subst e'
    show ad.block ≠ w.heap.size; omega)
  have Z21 := Lib.hid z1
  have Z22 := Lib.hid z2
  have HB2 := Lib.hid hb2
  have HM2 := Lib.hid hM2
  have H12 := Lib.hid hb12
  have S12 := Lib.hid s12
  obtain ⟨_, _, _, y3, y4, _, _⟩ := z1.cells
  clear z1 z2 hb2 hb12 hM2 HU HG Z1 Z2 HB1 HM1 hU2 s12
  go_upto_region 3 with (at_builtin; refine wpList_ncl rfl (.const (.slice none 0 0)) (.tmp 8) rfl B gs d rfl rfl hG2 s2 ?_; intro B1 d1 w3 hM3 hb3; have z := Z21.out.on hb3; have y4 := z.cell 4; have f4 := z.frozen 4; have HB3 := Lib.hid hb3; have HM3 := Lib.hid hM3; clear z hb3 hM3)
  clear y3 y4 f4
  obtain ⟨U4, hU4⟩ : ∃ U4, U4 = w3.setCell ⟨w.heap.size, 4, none⟩ (.slice B1 gs.length d1) := ⟨_, rfl⟩
  rw [← hU4]
  have s34 := HB3.out.size
  have z1 : Ab U4 w.heap.size ⟨ow, gr, ot, us, gs, hm, ms⟩ ⟨A1, c1, B1, d1⟩ := by rw [hU4]; exact (Z21.out.on HB3.out).set4 B1 d1
  have z2 : Ab U4 (w.heap.size + 1) acZ lieZ := by rw [hU4]; exact (Z22.out.on HB3.out).other _ (by show w.heap.size + 1 ≠ w.heap.size; omega)
  have hb4 : Below w.heap.size w U4 := by rw [hU4]; exact (HB2.out.trans (HB3.out.mono HB2.out.size)).setCell (Nat.le_refl _) _
  have hC4 : Copied w U4 ⟨ow, gr, ot, us, gs, hm, ms⟩ ⟨A1, c1, B1, d1⟩ := by
    have q0 := HZ.out
    have q1 := H12.out
    have q2 := S12.out
    have h0 : Copied w w3 ⟨ow, gr, ot, us, gs, hm, ms⟩ ⟨A1, c1, B1, d1⟩ := Copied.of (w1 := U2) (w2 := U2) (HM2.out.from (by omega)) (Below.refl _ _) HM3.out HB3.out HB2.out.size
    rw [hU4]
    exact ⟨h0.us.other _ (fun ad e => by have := HM2.out.2 ad e; show ad.block ≠ w.heap.size; omega), h0.gs.other _ (fun ad e => by have := HM3.out.2 ad e; show ad.block ≠ w.heap.size; omega), h0.ne⟩
  obtain ⟨y0, y1, y2, y3, y4, y5, y6⟩ := z1.cells
  obtain ⟨v0, v1, v2, v3, v4, v5, v6⟩ := z2.cells
  have f0 := z2.frozen 0
  have f1 := z2.frozen 1
  have f2 := z2.frozen 2
  have f3 := z2.frozen 3
  have f4 := z2.frozen 4
  have f5 := z2.frozen 5
  have f6 := z2.frozen 6
  have HB4 := Lib.hid hb4
  have HC4 := Lib.hid hC4
  have ZZ2 := Lib.hid z2
  have HF4 : Hid ((∀ ad, A1 = some ad → w.heap.size + 2 ≤ ad.block) ∧ ∀ ad, B1 = some ad → w.heap.size + 2 ≤ ad.block) := Lib.hid (by
    have q0 := HZ.out
    have q1 := H12.out
    have q2 := S12.out
    exact ⟨fun ad e => by have := HM2.out.2 ad e; omega, fun ad e => by have := HM3.out.2 ad e; omega⟩)
  clear z1 z2 hb4 hC4 Z21 Z22 HB2 HM2 H12 HB3 HM3 hU4 HB HZ S12 s34
  simp only at y0 y1 y2 y3 y4 y5 y6 v0 v1 v2 v3 v4 v5 v6
  go_wp2_with (fail)
  clear y0 y1 y2 y3 y4 y5 y6 v0 v1 v2 v3 v4 v5 v6 f0 f1 f2 f3 f4 f5 f6
  generalize hV : (((((((U4.setCell ⟨w.heap.size + 1, 0, none⟩ (.int .u8 (ow : Nat))).setCell ⟨w.heap.size + 1, 1, none⟩ (.int .u8 (gr : Nat))).setCell ⟨w.heap.size + 1, 2, none⟩ (.int .u8 (ot : Nat))).setCell ⟨w.heap.size + 1, 3, none⟩ (.slice A1 us.length c1)).setCell ⟨w.heap.size + 1, 4, none⟩ (.slice B1 gs.length d1)).setCell ⟨w.heap.size + 1, 5, none⟩ (.bool hm)).setCell ⟨w.heap.size + 1, 6, none⟩ (.int .u8 (ms : Nat))) = V
  have hV2 : setAll U4 (w.heap.size + 1) ⟨ow, gr, ot, us, gs, hm, ms⟩ ⟨A1, c1, B1, d1⟩ = V := hV
  have z9 := Ab.all ZZ2.out ⟨ow, gr, ot, us, gs, hm, ms⟩ ⟨A1, c1, B1, d1⟩
  have b9 := below_all (p := ⟨A1, c1, B1, d1⟩) HB4.out (Nat.le_succ w.heap.size) ⟨ow, gr, ot, us, gs, hm, ms⟩
  have c9 := HC4.out.all (b := w.heap.size + 1) ⟨ow, gr, ot, us, gs, hm, ms⟩ ⟨A1, c1, B1, d1⟩ (fun ad e => by have := HF4.out.1 ad e; omega) (fun ad e => by have := HF4.out.2 ad e; omega)
  rw [hV2] at z9 c9
  replace b9 : Below w.heap.size w V := hV2 ▸ b9
  clear hV hV2
  obtain ⟨y0, y1, y2, y3, y4, y5, y6⟩ := z9.cells
  simp only at y0 y1 y2 y3 y4 y5 y6
  exact bodyPost_ret (v := Ac.v ⟨ow, gr, ot, us, gs, hm, ms⟩ ⟨A1, c1, B1, d1⟩) (by simp [results, Try.results27, go_sem, y0, y1, y2, y3, y4, y5, y6]) rfl ⟨_, rfl, c9, b9⟩
end Go.Proofs.Ytejhodjbgablaaa
