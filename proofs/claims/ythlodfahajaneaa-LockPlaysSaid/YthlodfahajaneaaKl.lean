/- The program's Free: a process is taken out of all queues. -/
import Derived.Test.YthlodfahajaneaaKj
import Derived.Test.YthlodfahajaneaaKg
set_option linter.unusedSimpArgs false
set_option linter.unusedVariables false
namespace Go.Proofs.Ythlodfahajaneaa
open Go Go.RowKit LockMath Go.Shelf
/-- The first k queues are without it. -/
def fk (Q : List (List Int)) (p : Int) (k : Nat) : List (List Int) := (Q.take k).map (offQ p) ++ Q.drop k
theorem fk_zero (Q : List (List Int)) (p : Int) : fk Q p 0 = Q := by simp [fk]
theorem fk_all (Q : List (List Int)) (p : Int) : fk Q p Q.length = freeQ Q p := by simp [fk, freeQ]
theorem fk_len (Q : List (List Int)) (p : Int) (k : Nat) : (fk Q p k).length = Q.length := by simp [fk]; omega
theorem fk_qu {Q : List (List Int)} {p : Int} {k : Nat} (hk : k ≤ Q.length) (j : Nat) : qu (fk Q p k) j = if j < k then offQ p (qu Q j) else qu Q j := by
  unfold qu fk
  rw [List.getD_eq_getElem?_getD, List.getD_eq_getElem?_getD, List.getElem?_append]
  split
  · rename_i h
    simp only [List.length_map, List.length_take] at h
    rw [if_pos (by omega), List.getElem?_map, List.getElem?_take_of_lt (by omega), List.getElem?_eq_getElem (by omega)]
    rfl
  · rename_i h
    simp only [List.length_map, List.length_take] at h ⊢
    by_cases hj : j < k
    · rw [if_pos hj, List.getElem?_eq_none (by rw [List.length_drop]; omega), List.getElem?_eq_none (by omega)]; rfl
    · rw [if_neg hj, List.getElem?_drop]
      congr 2
      omega
theorem fk_succ {Q : List (List Int)} {p : Int} {k : Nat} (hk : k < Q.length) : fk Q p (k + 1) = (fk Q p k).set k (offQ p (qu Q k)) := by
  apply List.ext_getElem?
  intro j
  rw [List.getElem?_set]
  unfold fk qu
  by_cases hj : k = j
  · subst hj
    rw [if_pos rfl, if_pos (by simp; omega), List.getElem?_append_left (by simp; omega), List.getElem?_map, List.getElem?_take_of_lt (by omega), List.getElem?_eq_getElem hk, List.getD_eq_getElem?_getD, List.getElem?_eq_getElem hk]
    rfl
  · rw [if_neg hj]
    by_cases h1 : j < k
    · rw [List.getElem?_append_left (by simp; omega), List.getElem?_append_left (by simp; omega), List.getElem?_map, List.getElem?_map, List.getElem?_take_of_lt (by omega), List.getElem?_take_of_lt (by omega)]
    · rw [List.getElem?_append_right (by simp; omega), List.getElem?_append_right (by simp; omega), List.getElem?_drop, List.getElem?_drop]
      congr 1
      simp only [List.length_map, List.length_take]
      omega
theorem q_same {As : List (Option Addr × Nat)} {i : Nat} (hi : i < As.length) : As.set i (qA As i, qC As i) = As := by
  have : (qA As i, qC As i) = As[i] := by
    unfold qA qC
    rw [List.getD_eq_getElem?_getD, List.getElem?_eq_getElem hi]; rfl
  rw [this, List.set_getElem_self]
section
variable (w0 wB : World) (tt : TypeId) (X : Array Value) (T G B : Nat) (As : List (Option Addr × Nat)) (Q : List (List Int)) (k : Nat) (p : Int)
def DpA (u : World) : Prop := Tg w0 u tt X T G As (fk Q p k) ∧ Tn wB u T G As As ∧ u.heap[B]? = some (.cells #[.int .i64 p] 3 (0, 0)) ∧ w0.heap.size ≤ u.heap.size
def DpB (y : Value) (u : World) : Prop := ∃ u0, y = .slice (qA As k) (offQ p (qu Q k)).length (qC As k) ∧ DpA w0 wB tt X T G B As Q k p u0 ∧ OwnR u 3 1 (qA As k) (offQ p (qu Q k)).length (qC As k) (iv (offQ p (qu Q k))) ∧ Only (fun j => ∃ ad, qA As k = some ad ∧ j = ad.block) u0 u
structure Dp (L : Nat → Bool) (x y : Value) (u : World) : Prop where
  a : L 7 = false → DpA w0 wB tt X T G B As Q k p u
  b : L 7 = true → L 9 = false → DpB w0 wB tt X T G B As Q k p y u
  z : L 9 = true → ∀ j, j < 9 → L j = true
  c : L 9 = true → DpA w0 wB tt X T G B As Q (k + 1) p u
end
section
variable {w0 wB w u u' : World} {tt : TypeId} {X : Array Value} {T G B : Nat} {As : List (Option Addr × Nat)} {n : Int} {Q : List (List Int)} {k : Nat} {p : Int} {L : Nat → Bool} {x y : Value}
theorem Dp.keep (h : Dp w0 wB tt X T G B As Q k p L x y u) {j : Nat} (h2 : j ≠ 7) (h3 : j ≠ 9) : Dp w0 wB tt X T G B As Q k p (setL L j) x y u := by
  have e2 := setLne (L := L) h2
  have e3 := setLne (L := L) h3
  refine ⟨fun k => h.a (by rwa [e2] at k), fun k k2 => h.b (by rwa [e2] at k) (by rwa [e3] at k2), fun k j hj => ?_, fun k => h.c (by rwa [e3] at k)⟩
  rw [e3] at k
  have := h.z k j hj
  unfold setL
  split
  · rfl
  · exact this
theorem Dp.start (h : DpA w0 wB tt X T G B As Q k p u) : Dp w0 wB tt X T G B As Q k p (fun _ => false) x y u :=
  ⟨fun _ => h, fun k => (by cases k), fun k => (by cases k), fun k => (by cases k)⟩
theorem Dp.cT (h : Dp w0 wB tt X T G B As Q k p L x y u) {j : Nat} (hj : j < 9) (hl : L j = false) (f : Nat) {v : Value} (hv : X[f]? = some v) : u.cell? ⟨T, f, none⟩ = some v := by
  cases h9 : L 9 with
  | true => rw [h.z h9 j hj] at hl; cases hl
  | false =>
    cases h7 : L 7 with
    | false => rw [cell_of_row u T f _ _ _ (h.a h7).1.blk]; exact hv
    | true =>
      obtain ⟨u0, _, ha, _, hg⟩ := h.b h7 h9
      refine Eq.trans (World.cell?_of_block (hg.block T ha.1.ltT fun hf => ?_)) ((cell_of_row u0 T f _ _ _ ha.1.blk).trans hv)
      obtain ⟨ad, hA, e⟩ := hf
      exact ha.1.neTA hA e.symm
theorem Dp.store (h : Dp w0 wB tt X T G B As Q k p L x y u) (hk : k < Q.length) (hne : ∀ j, TF T G As j → j ≠ B) (hl : L 9 = false) (hall : ∀ j, j < 9 → L j = true) :
    y = .slice (qA As k) (offQ p (qu Q k)).length (qC As k) ∧ u.cell? ⟨G, k, none⟩ = some (.slice (qA As k) (qu Q k).length (qC As k)) ∧ u.frozen? ⟨G, k, none⟩ = false ∧
      Dp w0 wB tt X T G B As Q k p (setL L 9) x y (u.setCell ⟨G, k, none⟩ (.slice (qA As k) (offQ p (qu Q k)).length (qC As k))) := by
  obtain ⟨u0, e, ha, ho, hg⟩ := h.b (hall 7 (by decide)) hl
  have hkF : k < (fk Q p k).length := by rw [fk_len]; exact hk
  obtain ⟨k1, k2⟩ := ha.1.put hkF hg (fun j hj => hj) rfl ha.2.2.2 ho (.inl rfl)
  have hal : k < As.length := by rw [ha.1.q.al]; exact hkF
  rw [q_same hal, ← fk_succ hk] at k1
  rw [q_same hal] at k2
  have hGn : ¬ ∃ ad, qA As k = some ad ∧ G = ad.block := fun ⟨ad, hA, e⟩ => ha.1.q.neG hkF hA e.symm
  have hGu := hg.block G ha.1.q.ltG hGn
  refine ⟨e, ?_, ?_, fun k => ?_, fun _ k => ?_, fun _ j hj => (setLne (by omega)).trans (hall j hj), fun _ => ⟨k1, ha.2.1.trans k2, ?_, Nat.le_trans ha.2.2.2 (k2.only.size)⟩⟩
  · rw [World.cell?_of_block (w := u0) hGu, ha.1.q.cell hkF, fk_qu (Nat.le_of_lt hk), if_neg (Nat.lt_irrefl _)]
  · obtain ⟨cur, hc, _⟩ := ha.1.q.blk
    rw [← hGu] at hc
    simp [World.frozen?, hc]
  · rw [setLne (by decide), hall 7 (by decide)] at k; cases k
  · rw [setLeq] at k; cases k
  · refine (Below.heap_setCell _ _ _ _ (hne G (.inr (.inl rfl))).symm).trans ((hg.block B (lt_of_cells ha.2.2.1) fun hf => ?_).trans ha.2.2.1)
    obtain ⟨ad, hA, e⟩ := hf
    exact hne ad.block (.inr (.inr ⟨k, ad, hA, rfl⟩)) e.symm
theorem Dp.call (h : Dp w0 wB tt X T G B As Q k p L x y u) (hk : k < Q.length) (hne : ∀ j, TF T G As j → j ≠ B) (hl : L 7 = false) (hlen : (qu Q k).length ≤ 16) :
    Calls Try.prog 24 #[.slice (qA As k) (qu Q k).length (qC As k), .func (.func 23) #[] #[.pointer (some ⟨B, 0, none⟩)]] u fun e w' =>
      e = .returned (.slice (qA As k) (offQ p (qu Q k)).length (qC As k)) ∧ ∀ x', Dp w0 wB tt X T G B As Q k p (setL L 7) x' (.slice (qA As k) (offQ p (qu Q k)).length (qC As k)) w' := by
  have h9 : L 9 = false := by
    cases h9 : L 9 with
    | false => rfl
    | true => rw [h.z h9 7 (by decide)] at hl; cases hl
  have ha := h.a hl
  have hkF : k < (fk Q p k).length := by rw [fk_len]; exact hk
  have ho := ha.1.q.own k hkF
  rw [fk_qu (Nat.le_of_lt hk), if_neg (Nat.lt_irrefl _)] at ho
  refine (delete_calls u (qA As k) (qu Q k) (qC As k) p B ho (lt_of_cells ha.2.2.1) (cell_of_row u B 0 _ _ _ ha.2.2.1) (fun ad hA e => hne ad.block (.inr (.inr ⟨k, ad, hA, rfl⟩)) e.symm) (by omega)).mono ?_
  rintro e w' ⟨rfl, h1, h2⟩
  have e3 : setL L 7 9 = false := (setLne (by decide)).trans h9
  exact ⟨rfl, fun x' => ⟨fun k => (by rw [setLeq] at k; cases k), fun _ _ => ⟨u, rfl, ha, h1, h2⟩, fun k => (by rw [e3] at k; cases k), fun k => (by rw [e3] at k; cases k)⟩⟩
theorem free_no (hp : hasP n p = false) : freeE n p = 2 ∧ freeQ' Q n p = Q := by
  have hp := of_decide_eq_false hp
  unfold freeE freeQ'
  rw [if_neg hp, if_neg hp]
  exact ⟨rfl, rfl⟩
theorem free_yes (hp : hasP n p = true) : freeE n p = 0 ∧ freeQ' Q n p = freeQ Q p := by
  have hp := of_decide_eq_true hp
  unfold freeE freeQ'
  rw [if_pos hp, if_pos hp]
  exact ⟨rfl, rfl⟩
/-- What Free leaves. -/
def FreeP (w0 w : World) (T G : Nat) (As : List (Option Addr × Nat)) (n : Int) (er : Int) (Q' : List (List Int)) (e : Ending) (w' : World) : Prop :=
  e = .returned (.int .i64 er) ∧ ∃ As', Tb w0 w' T G As' n Q' ∧ Tn w w' T G As As'
set_option maxRecDepth 100000 in
theorem free_calls (h : Tb w0 w T G As n Q) (hw0 : w0.heap.size ≤ w.heap.size) (p : Int) :
    Calls Try.prog 11 #[.pointer (some ⟨T, 0, none⟩), .int .i64 p] w (FreeP w0 w T G As n (freeE n p) (freeQ' Q n p)) := by
  have hbx : Below w.heap.size w (w.alloc (.cells #[.int .i64 p] 3)) := (Below.refl _ _).alloc (Nat.le_refl _) _
  have hTB := h.below hbx
  have CL := Lib.hid (lacks_calls hTB p)
  have yb : (w.alloc (.cells #[.int .i64 p] 3)).cell? ⟨w.heap.size, 0, none⟩ = some (.int .i64 p) := cell_of_row _ _ 0 _ _ _ (heap_alloc_new w _)
  have HB0 := Lib.hid (heap_alloc_new w (.cells #[.int .i64 p] 3))
  have HNE : Hid (∀ j, TF T G As j → j ≠ w.heap.size) := Lib.hid (fun j hj => Nat.ne_of_lt (h.tg.ltF hj))
  have HTN := Lib.hid (Tn.of_below (T := T) (G := G) (As := As) hbx)
  have HSZ := Lib.hid hbx.size
  have HT := Lib.hid hTB
  cases hp : hasP n p with
  | false =>
    obtain ⟨e1, e2⟩ := free_no (Q := Q) hp
    rw [e1, e2]
    rw [lack_no hp] at CL
    clear h hTB hbx hp e1 e2
    go_enter Try.func11, Try.ntmps11
    go_wp2_with (go_at_call 22; refine CL.out.mono ?_; rintro e w' ⟨rfl, rfl⟩)
    go_ret
    exact ⟨rfl, As, HT.out, HTN.out⟩
  | true =>
    obtain ⟨e1, e2⟩ := free_yes (Q := Q) hp
    rw [e1, e2]
    rw [lack_yes hp] at CL
    have y1 := hTB.c1
    obtain ⟨m, hM⟩ : ∃ m, Q.length = m := ⟨_, rfl⟩
    have HM := Lib.hid hM
    have hm := h.nm.l1
    rw [hM] at y1 hm
    have HNM := Lib.hid h.nm
    have HNF := Lib.hid (h.nm.free p)
    have HDP0 : Hid (DpA w0 w 49 (#[.int .i64 n, .slice (some ⟨G, 0, none⟩) m m]) T G w.heap.size As Q 0 p (w.alloc (.cells #[.int .i64 p] 3))) := Lib.hid (by
      have h1 := hTB.tg
      rw [hM] at h1
      exact ⟨by rw [fk_zero]; exact h1, HTN.out, HB0.out, Nat.le_trans hw0 HSZ.out⟩)
    clear h hTB hbx hp e1 e2 hM HB0 HTN HSZ HT
    obtain ⟨B, hBB⟩ : ∃ B, w.heap.size = B := ⟨_, rfl⟩
    obtain ⟨V, hV⟩ : ∃ V, V = w.alloc (.cells #[.int .i64 p] 3) := ⟨_, rfl⟩
    go_enter Try.func11, Try.ntmps11
    go_upto_region 1 with (fail)
    rw [← hV] at y1 yb HDP0 CL ⊢
    rw [hBB] at yb HDP0 HNE
    clear hV
    go_wp2_with (go_at_call 22; refine CL.out.mono ?_; rintro e w' ⟨rfl, rfl⟩)
    generalize w = wB at *
    clear y1 yb CL
    go_loopg [21] m (fun g s21 wx => ∃ k : Nat, k + g = m ∧ s21 = .int .i64 k ∧ Hid (DpA w0 wB 49 (#[.int .i64 n, .slice (some ⟨G, 0, none⟩) m m]) T G B As Q k p wx))
    case atStart => exact ⟨0, by omega, rfl, HDP0⟩
    case round =>
      obtain ⟨k, hkg, rfl, HD⟩ := hrel
      cases gk with
      | zero =>
        obtain rfl : k = m := by omega
        go_wp2_with (fail)
        go_ret
        have h1 := HD.out
        refine ⟨rfl, As, ?_, h1.2.1⟩
        have h2 := h1.1
        rw [← HM.out, fk_all] at h2
        exact h2.tb (by rw [free_len]) HNF.out
      | succ g =>
        have hkm : k < m := by omega
        have hkm2 : (k : Int) < (m : Int) := by omega
        have HKQ : Hid (k < Q.length) := Lib.hid (by rw [HM.out]; exact hkm)
        have HL16 := Lib.hid (HNM.out.len k)
        have yq := HD.out.1.q.cell (i := k) (by rw [fk_len]; exact HKQ.out)
        rw [fk_qu (Nat.le_of_lt HKQ.out), if_neg (Nat.lt_irrefl _)] at yq
        obtain ⟨N, hN⟩ : ∃ N, (qu Q k).length = N := ⟨_, rfl⟩
        have HN := Lib.hid hN
        obtain ⟨A, hA⟩ : ∃ A, qA As k = A := ⟨_, rfl⟩
        have HA := Lib.hid hA
        obtain ⟨C, hC⟩ : ∃ C, qC As k = C := ⟨_, rfl⟩
        have HC := Lib.hid hC
        rw [hN, hA, hC] at yq
        clear hN hA hC
        have HDP : Hid (DpA w0 wB 49 (#[.int .i64 n, .slice (some ⟨G, 0, none⟩) m m]) T G B As Q k p wr.drew) := Lib.hid (by
          obtain ⟨h1, h2, h3, h4⟩ := HD.out
          have hb : Below wr.heap.size wr wr.drew := (Below.refl _ _).drew
          exact ⟨h1.below hb, h2.trans (Tn.of_below hb), h3, h4⟩)
        go_wp2_with (fail)
        refine wp_region_slots (lv [.pointer (some ⟨T, 0, none⟩), .pointer (some ⟨T, 0, none⟩), .pointer (some ⟨T, 1, none⟩), .slice (some ⟨G, 0, none⟩) m m, .int .i64 (k : Nat), .slice A N C, .func (.func 23) #[] #[.pointer (some ⟨B, 0, none⟩)], undef, .pointer (some ⟨G, k, none⟩), undef]) 7 7 33 33 (Dp w0 wB 49 (#[.int .i64 n, .slice (some ⟨G, 0, none⟩) m m]) T G B As Q k p) (by kernel_rfl) (by kernel_rfl) (by rfl) (by rfl) (Dp.start HDP.out) ?steps ?tail
        case steps =>
          refine ⟨?s0, ?s1, ?s2, ?s3, ?s4, ?s5, ?s6, ?s7, ?s8, ?s9, trivial⟩
          case s0 =>
            intro Lb ac u hAg hp hl hd
            have q0 := ev_of (show ac.eval (.tmp 0) = .pointer (some ⟨T, 0, none⟩) from hAg.eval 0 rfl)
            refine ⟨rfl, StepOK.run (.pointer (some ⟨T, 0, none⟩)) ?_ ⟨fun _ _ => rfl, hp.keep (by decide) (by decide)⟩ trivial⟩
            unfold execOp
            simp [go_sem, q0]
          case s1 =>
            intro Lb ac u hAg hp hl hd
            have q0 := ev_of (show ac.eval (.tmp 26) = .pointer (some ⟨T, 0, none⟩) from depS hd 0 26 rfl rfl (by decide) (by decide))
            refine ⟨rfl, StepOK.run (.pointer (some ⟨T, 0, none⟩)) ?_ ⟨fun _ _ => rfl, hp.keep (by decide) (by decide)⟩ trivial⟩
            unfold execOp
            simp [go_sem, q0]
          case s2 =>
            intro Lb ac u hAg hp hl hd
            have q0 := ev_of (show ac.eval (.tmp 27) = .pointer (some ⟨T, 0, none⟩) from depS hd 1 27 rfl rfl (by decide) (by decide))
            refine ⟨rfl, StepOK.run (.pointer (some ⟨T, 1, none⟩)) ?_ ⟨fun _ _ => rfl, hp.keep (by decide) (by decide)⟩ trivial⟩
            unfold execOp
            simp [go_sem, q0]
          case s3 =>
            intro Lb ac u hAg hp hl hd
            have q0 := ev_of (show ac.eval (.tmp 28) = .pointer (some ⟨T, 1, none⟩) from depS hd 2 28 rfl rfl (by decide) (by decide))
            have y0 := hp.cT (j := 3) (by decide) hl 1 (v := .slice (some ⟨G, 0, none⟩) m m) rfl
            refine ⟨rfl, StepOK.run (.slice (some ⟨G, 0, none⟩) m m) ?_ ⟨fun _ _ => rfl, hp.keep (by decide) (by decide)⟩ trivial⟩
            unfold execOp
            simp [go_sem, q0, y0]
          case s4 =>
            intro Lb ac u hAg hp hl hd
            have q0 := ev_of (show ac.eval (.tmp 7) = .int .i64 (k : Nat) from hAg.eval 7 rfl)
            refine ⟨rfl, StepOK.run (.int .i64 (k : Nat)) ?_ ⟨fun _ _ => rfl, hp.keep (by decide) (by decide)⟩ trivial⟩
            unfold execOp
            simp [go_sem, q0]
          case s5 =>
            intro Lb ac u hAg hp hl hd
            have q0 := ev_of (show ac.eval (.tmp 8) = .slice A N C from hAg.eval 8 rfl)
            refine ⟨rfl, StepOK.run (.slice A N C) ?_ ⟨fun _ _ => rfl, hp.keep (by decide) (by decide)⟩ trivial⟩
            unfold execOp
            simp [go_sem, q0]
          case s6 =>
            intro Lb ac u hAg hp hl hd
            have q0 := ev_of (show ac.eval (.tmp 6) = .func (.func 23) #[] #[.pointer (some ⟨B, 0, none⟩)] from hAg.eval 6 rfl)
            refine ⟨rfl, StepOK.run (.func (.func 23) #[] #[.pointer (some ⟨B, 0, none⟩)]) ?_ ⟨fun _ _ => rfl, hp.keep (by decide) (by decide)⟩ trivial⟩
            unfold execOp
            simp [go_sem, q0]
          case s7 =>
            intro Lb ac u hAg hp hl hd
            have q0 := ev_of (show ac.eval (.tmp 31) = .slice A N C from depS hd 5 31 rfl rfl (by decide) (by decide))
            have q1 := ev_of (show ac.eval (.tmp 32) = .func (.func 23) #[] #[.pointer (some ⟨B, 0, none⟩)] from depS hd 6 32 rfl rfl (by decide) (by decide))
            have hc := hp.call HKQ.out HNE.out hl HL16.out
            rw [HA.out, HN.out, HC.out] at hc
            refine ⟨rfl, StepOK.call 24 #[.slice A N C, .func (.func 23) #[] #[.pointer (some ⟨B, 0, none⟩)]] ?_ (hc.mono ?_)⟩
            · unfold execOp
              simp [go_sem, q0, q1]
            · rintro e w2 ⟨rfl, h2⟩
              exact ⟨_, rfl, ⟨fun h1 _ => absurd rfl h1, h2 _⟩, trivial⟩
          case s8 =>
            intro Lb ac u hAg hp hl hd
            have q0 := ev_of (show ac.eval (.tmp 29) = .slice (some ⟨G, 0, none⟩) m m from depS hd 3 29 rfl rfl (by decide) (by decide))
            have q1 := ev_of (show ac.eval (.tmp 30) = .int .i64 (k : Nat) from depS hd 4 30 rfl rfl (by decide) (by decide))
            refine ⟨rfl, StepOK.run (.pointer (some ⟨G, k, none⟩)) ?_ ⟨fun _ _ => rfl, hp.keep (by decide) (by decide)⟩ trivial⟩
            unfold execOp
            simp [go_sem, q0, q1, hkm2]
          case s9 =>
            intro Lb ac u hAg hp hl hd
            have r0 := (show ac.eval (.tmp 34) = .pointer (some ⟨G, k, none⟩) from depS hd 8 34 rfl rfl (by decide) (by decide))
            have hall : ∀ j, j < 9 → Lb j = true := by
              intro j hj
              match j, hj with
              | 0, _ => exact depSL hd 0 rfl
              | 1, _ => exact depSL hd 1 rfl
              | 2, _ => exact depSL hd 2 rfl
              | 3, _ => exact depSL hd 3 rfl
              | 4, _ => exact depSL hd 4 rfl
              | 5, _ => exact depSL hd 5 rfl
              | 6, _ => exact depSL hd 6 rfl
              | 7, _ => exact depSL hd 7 rfl
              | 8, _ => exact depSL hd 8 rfl
              | j + 9, h => exact absurd h (by omega)
            obtain ⟨e61, hcz, hfz, hAp⟩ := hp.store HKQ.out HNE.out hl hall
            rw [HA.out, HC.out] at e61
            rw [HA.out, HN.out, HC.out] at hcz
            rw [HA.out, HC.out] at hAp
            refine ⟨rfl, StepOK.skip (w' := u.setCell ⟨G, k, none⟩ (.slice A (offQ p (qu Q k)).length C)) ?_ ⟨fun _ _ => rfl, hAp⟩ trivial⟩
            unfold execOp
            simp only [r0, e61]
            simp [go_sem, hcz, hfz]
        case tail =>
          intro Lb vs u hp hv hall
          have e0 : vs 0 = .pointer (some ⟨T, 0, none⟩) := hv 0 rfl (by decide) (by decide)
          have e1 : vs 1 = .pointer (some ⟨T, 0, none⟩) := hv 1 rfl (by decide) (by decide)
          have e2 : vs 2 = .pointer (some ⟨T, 1, none⟩) := hv 2 rfl (by decide) (by decide)
          have e3 : vs 3 = .slice (some ⟨G, 0, none⟩) m m := hv 3 rfl (by decide) (by decide)
          have e4 : vs 4 = .int .i64 (k : Nat) := hv 4 rfl (by decide) (by decide)
          have e5 : vs 5 = .slice A N C := hv 5 rfl (by decide) (by decide)
          have e6 : vs 6 = .func (.func 23) #[] #[.pointer (some ⟨B, 0, none⟩)] := hv 6 rfl (by decide) (by decide)
          have e8 : vs 8 = .pointer (some ⟨G, k, none⟩) := hv 8 rfl (by decide) (by decide)
          simp only [putsFrom, Act.put, List.setIfInBounds_toArray, List.set_cons_succ, List.set_cons_zero, Nat.reduceAdd, e0, e1, e2, e3, e4, e5, e6, e8]
          have HCC := Lib.hid (hp.c (hall 9 (by decide)))
          generalize vs 7 = z7
          clear e0 e1 e2 e3 e4 e5 e6 e8 hv hp hall yq
          go_wp2_with (fail)
          go_roundg g
          case measure => omega
          case rel => exact ⟨k + 1, by omega, by go_num, HCC⟩
theorem free_nil (w : World) (p : Int) : Calls Try.prog 11 #[.pointer none, .int .i64 p] w fun e w' => e = .returned (.int .i64 1) ∧ Below w.heap.size w w' := by
  have hbx : Below w.heap.size w (w.alloc (.cells #[.int .i64 p] 3)) := (Below.refl _ _).alloc (Nat.le_refl _) _
  have HB := Lib.hid hbx
  clear hbx
  go_enter Try.func11, Try.ntmps11
  go_wp2_with (go_at_call 22; refine (lacks_nil _ _).mono ?_; rintro e w' ⟨rfl, rfl⟩)
  go_ret
  exact ⟨rfl, HB.out⟩
end
end Go.Proofs.Ythlodfahajaneaa
