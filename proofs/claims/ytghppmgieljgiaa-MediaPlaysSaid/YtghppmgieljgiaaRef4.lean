/- The document's own Crash, Fence. -/
import Derived.Test.YtghppmgieljgiaaRef3
namespace Go.Proofs.Ytghppmgieljgiaa
open Go.RowKit
section
variable {w wr : World} {g gk ck cp : Nat} {A : Option Addr} {K : List Nat} {L : List Pn} {F : Nat → Prop}
/-- What is kept was turned alone. -/
structure RKept (w wr : World) (gk : Nat) (K' : List Nat) : Prop where
  hk : Blkp 32 wr gk K'
  only : Only (· = gk) w wr
theorem RKept.dev {K' : List Nat} (h : RDevC w g gk ck A cp K L) (hr : RKept w wr gk K') (hl : K'.length = K.length) : RDevC wr g gk ck A cp K' L := by
  refine ⟨?_, hr.hk, ?_, by rw [hl]; exact h.kc⟩
  · rw [hl]
    exact (hr.only.block g (lt_of_cells h.hg) h.gk_ne).trans h.hg
  · exact h.hp.keep fun ad e => hr.only.block _ (h.hp.lt ad e) (by subst e; exact Ne.symm h.gp_ne.2)
theorem RKept.set {K' : List Nat} (hr : RKept w wr gk K') (a v : Nat) : RKept w (wr.setCell ⟨gk, a, none⟩ (.int .u64 (v : Nat))) gk (K'.set a v) :=
  ⟨hr.hk.set a v, Only.setCell (p := ⟨gk, a, none⟩) hr.only (.inl rfl) _⟩
theorem RKept.drew {K' : List Nat} (hr : RKept w wr gk K') : RKept w wr.drew gk K' := ⟨hr.hk, hr.only.drew⟩
/-- The row that waits is taken away. -/
theorem RDevC.emptied (h : RDevC w g gk ck A cp K L) : RDevC (w.setCell ⟨g, 1, none⟩ (.slice none 0 0)) g gk ck none 0 K [] := by
  refine ⟨?_, ?_, OwnR.nil _ _ _, h.kc⟩
  · rw [heap_setCell_same _ _ _ _ _ _ h.hg]
    rfl
  · obtain ⟨c, hc, ht⟩ := h.hk
    exact ⟨c, (Below.heap_setCell _ _ _ _ (Ne.symm h.gk_ne)).trans hc, ht⟩
theorem keeps_step (st : Nat → Pn → Bool) (K : List Nat) (L : List Pn) (k : Nat) (hk : k < L.length) :
    lay K (keeps st (L.take (k + 1))) = if st k (L.getD k p0) then (lay K (keeps st (L.take k))).set (L.getD k p0).pos (L.getD k p0).word else lay K (keeps st (L.take k)) := by
  rw [keeps_take _ _ _ hk]
  cases st k (L.getD k p0)
  · simp
  · simp [lay_snoc]
theorem rcrash_calls (hD : RDev w g F K L) (hpos : ∀ p ∈ L, p.pos < K.length) (_ : K.length ≤ 1099511627776) (hL : L.length ≤ 1099511627776)
    (B : Option Addr) (keep : List Bool) (c : Nat) (hr : Cel w B (bv keep)) (hkm : keep.length ≤ 9223372036854775807) (hB : ∀ ad, B = some ad → 0 < keep.length → ¬ F ad.block) :
    Calls Try.prog 21 #[.pointer (some ⟨g, 0, none⟩), .slice B keep.length c] w fun e w' => e = .returned (.tuple #[]) ∧ RTurn w g F (lay K (keeps (stC keep) L)) [] w' := by
  obtain ⟨gk, ck, A, cp, h, f1, f2, f4, f5⟩ := hD
  have HP := Lib.hid hpos
  clear hpos
  go_enter Try.func21, Try.ntmps21
  go_wp2
  go_loopw [4] (fun i wr => ∃ k : Nat, i = .int .i64 k ∧ k ≤ L.length ∧ RKept w wr gk (lay K (keeps (stC keep) (L.take k)))) (fun i _ => L.length - (intOf i).toNat)
  case atStart => exact ⟨0, rfl, Nat.zero_le _, h.hk, Only.refl _ _⟩
  case round =>
    obtain ⟨k, rfl, hk, hK⟩ := hrel
    have hd := hK.dev h (lay_length _ _)
    have c0 := hd.c0
    have c1 := hd.c1
    rw [lay_length] at c0
    by_cases hlt : k < L.length
    · obtain ⟨gp, rfl, x0, x1, _⟩ := own_at hd.hp hlt
      have hpk := HP.out (L.getD k p0) (by rw [getD_of_lt _ _ _ hlt]; exact List.getElem_mem _)
      have hck := hK.hk.cell (L.getD k p0).pos (by rw [lay_length]; exact hpk)
      have hfk := hK.hk.frozen (L.getD k p0).pos
      have hl := keeps_step (stC keep) K L k hlt
      have hset := Lib.hid (hK.set (L.getD k p0).pos (L.getD k p0).word).drew
      generalize hp : L.getD k p0 = p at *
      clear hp
      by_cases hkl : k < keep.length
      · obtain ⟨ad, rfl, hadl, hc⟩ := (hr.only hK.only fun ad e h0 hf => hB ad e (by rw [bv_length] at h0; exact h0) (by rw [hf]; exact f2)) (by rw [bv_length]; omega)
        have hkc := hc k _ (bv_get keep k hkl)
        clear hc
        cases hb : keep.getD k false
        · rw [hb] at hkc
          have HL := Lib.hid (show lay K (keeps (stC keep) (L.take (k + 1))) = lay K (keeps (stC keep) (L.take k)) by rw [hl]; unfold stC; rw [hb]; rfl)
          clear hl hb hset
          go_wp2
          go_roundw
          case rel => exact ⟨k + 1, by go_num, by omega, by rw [HL.out]; exact hK⟩
          case measure => simp [intOf]; omega
        · rw [hb] at hkc
          have HL := Lib.hid (show lay K (keeps (stC keep) (L.take (k + 1))) = (lay K (keeps (stC keep) (L.take k))).set p.pos p.word by rw [hl]; unfold stC; rw [hb]; rfl)
          clear hl hb
          go_wp2
          go_region
          go_wp2
          go_roundw
          case rel => exact ⟨k + 1, by go_num, by omega, by rw [HL.out]; exact hset.out⟩
          case measure => simp [intOf]; omega
      · have hb : keep.getD k false = false := by rw [List.getD_eq_getElem?_getD, List.getElem?_eq_none (by omega)]; rfl
        have HL := Lib.hid (show lay K (keeps (stC keep) (L.take (k + 1))) = lay K (keeps (stC keep) (L.take k)) by rw [hl]; unfold stC; rw [hb]; rfl)
        clear hl hb hset
        go_wp2
        go_roundw
        case rel => exact ⟨k + 1, by go_num, by omega, by rw [HL.out]; exact hK⟩
        case measure => simp [intOf]; omega
    · obtain rfl : k = L.length := by omega
      rw [List.take_length] at hd hK
      have f := hd.f 1
      have hd' := hd.emptied
      have ho : Only F w (wr.setCell ⟨g, 1, none⟩ (.slice none 0 0)) := Only.setCell (p := ⟨g, 1, none⟩) (Only.trans (Only.refl F w) hK.only fun i hi => .inl (by rw [hi]; exact f2)) (.inl f1) _
      go_wp2
      go_end0
      exact ⟨rfl, RTurn.mk hd' ho f1 f2 (fun ad e => by cases e) fun i hi => ⟨.inl hi, Nat.lt_of_lt_of_le (f5 i hi) ho.size⟩⟩
/-- The row of the others, gathered so far. -/
def Rest (w wr : World) (M : List Pn) (v : Value) : Prop :=
  ∃ A c, v = .slice A M.length c ∧ OwnR wr 61 3 A M.length c (pv M) ∧ ∀ ad, A = some ad → w.heap.size ≤ ad.block
theorem Rest.start (w : World) : Rest w w [] (.slice none 0 0) := ⟨none, 0, rfl, OwnR.nil _ _ _, fun ad e => by cases e⟩
theorem Rest.stored {M : List Pn} {v : Value} (h : Rest w wr M v) (hgk : gk < w.heap.size) (a : Nat) (u : Value) : Rest w (wr.setCell ⟨gk, a, none⟩ u).drew M v := by
  obtain ⟨A, c, e, h1, h2⟩ := h
  exact ⟨A, c, e, h1.keep fun ad e => Below.heap_setCell _ _ _ _ (by have := h2 ad e; show ad.block ≠ gk; omega), h2⟩
/-- The end: the row of the others is stored. -/
theorem RDevC.rested {M : List Pn} {v : Value} (h : RDevC wr g gk ck A cp K L) (hr : Rest w wr M v) (hg : g < w.heap.size) (ho : Only F w wr) (f1 : F g) (f2 : F gk) (f5 : ∀ i, F i → i < w.heap.size) : RTurn w g F K M (wr.setCell ⟨g, 1, none⟩ v) := by
  obtain ⟨A', c', rfl, h1, h2⟩ := hr
  have ho' : Only F w (wr.setCell ⟨g, 1, none⟩ (.slice A' M.length c')) := Only.setCell (p := ⟨g, 1, none⟩) ho (.inl f1) _
  refine RTurn.mk (F' := fun i => F i ∨ ∃ ad, A' = some ad ∧ i = ad.block) (gk := gk) (ck := ck) (A := A') (cp := c') ⟨?_, ?_, ?_, h.kc⟩ ho' (.inl f1) (.inl f2) (fun ad e => .inr ⟨ad, e, rfl⟩) fun i hi => ?_
  · rw [heap_setCell_same _ _ _ _ _ _ h.hg]
    rfl
  · obtain ⟨c, hc, ht⟩ := h.hk
    exact ⟨c, (Below.heap_setCell _ _ _ _ (Ne.symm h.gk_ne)).trans hc, ht⟩
  · exact h1.keep fun ad e => Below.heap_setCell _ _ _ _ (by have := h2 ad e; show ad.block ≠ g; omega)
  · rcases hi with hi | ⟨ad, e, rfl⟩
    · exact ⟨.inl hi, Nat.lt_of_lt_of_le (f5 i hi) ho'.size⟩
    · exact ⟨.inr (h2 ad e), by have := h1.lt ad e; simpa [World.setCell] using this⟩
theorem rfence_calls (hD : RDev w g F K L) (hpos : ∀ p ∈ L, p.pos < K.length) (_ : K.length ≤ 1099511627776) (hL : L.length ≤ 1099511627776) :
    Calls Try.prog 19 #[.pointer (some ⟨g, 0, none⟩)] w fun e w' => e = .returned (.tuple #[]) ∧ RTurn w g F (lay K (keeps stF L)) (leaves stF L) w' := by
  obtain ⟨gk, ck, A, cp, h, f1, f2, f4, f5⟩ := hD
  have HP := Lib.hid hpos
  clear hpos
  obtain ⟨i0, hi0, hz0, hs0, hb0⟩ := info_parts pend_info
  have HI := Lib.hid hi0
  have HZ := Lib.hid hz0
  have HS := Lib.hid hs0
  have HB := Lib.hid hb0
  clear hi0 hz0 hs0 hb0
  go_enter Try.func19, Try.ntmps19
  go_wp2
  go_loopw [2, 3] (fun r i wr => ∃ k : Nat, i = .int .i64 k ∧ k ≤ L.length ∧ Rest w wr (leaves stF (L.take k)) r ∧ RKept w wr gk (lay K (keeps stF (L.take k)))) (fun _ i _ => L.length - (intOf i).toNat)
  case atStart => exact ⟨0, rfl, Nat.zero_le _, Rest.start w, h.hk, Only.refl _ _⟩
  case round =>
    obtain ⟨k, rfl, hk, hR, hK⟩ := hrel
    have hd := hK.dev h (lay_length _ _)
    have c0 := hd.c0
    have c1 := hd.c1
    rw [lay_length] at c0
    by_cases hlt : k < L.length
    · obtain ⟨gp, rfl, x0, x1, x2⟩ := own_at hd.hp hlt
      have hpk := HP.out (L.getD k p0) (by rw [getD_of_lt _ _ _ hlt]; exact List.getElem_mem _)
      have hck := hK.hk.cell (L.getD k p0).pos (by rw [lay_length]; exact hpk)
      have hfk := hK.hk.frozen (L.getD k p0).pos
      have hl := keeps_step stF K L k hlt
      have hv := leaves_take stF L k hlt
      have hset := Lib.hid (hK.set (L.getD k p0).pos (L.getD k p0).word).drew
      have hjk := leaves_take_length stF L k
      generalize hp : L.getD k p0 = p at *
      clear hp
      cases hb : p.fl
      · rw [hb] at x2
        have hst : stF k p = false := hb
        rw [hst] at hl hv
        simp only [Bool.false_eq_true, if_false] at hl hv
        have HL := Lib.hid hl
        have HV := Lib.hid hv
        have HFL := Lib.hid hb
        obtain ⟨A', c', rfl, hown, hnew⟩ := hR
        have HO := Lib.hid (fun o => hown.keep (w' := wr.alloc o) fun ad e => Below.heap_alloc _ _ _ (hown.lt ad e))
        clear hl hv hst hb hset
        go_wp2_with (at_builtin; refine wpList_append_r rfl (.tmp 42) (.tmp 50) 48 rfl 61 i0 _ 3 24 Try.underlying48 HI.out HZ.out HS.out HB.out rfl A' (leaves stF (L.take k)).length c' (pv (leaves stF (L.take k))) rfl (HO.out _) ⟨wr.heap.size, 0, none⟩ 1 1 (pv [⟨p.pos, p.word, false⟩]) rfl rfl (cells_one ⟨p.pos, p.word, false⟩ 61 (heap_alloc_new _ _)) (pv_one _) (by decide) (by unfold maxLen; omega) (by omega) ?_; intro g' c2 w1 hown2 hgr hg)
        have hpe : (⟨p.pos, p.word, false⟩ : Pn) = p := by rw [← HFL.out]
        rw [hpe] at hown2
        have hz := hK.only.size
        have hgkl := h.hk.lt
        have hR' : Rest w w1 (leaves stF (L.take (k + 1))) (.slice (some ⟨g', 0, none⟩) ((leaves stF (L.take k)).length + 1) c2) := by
          refine ⟨some ⟨g', 0, none⟩, c2, ?_, ?_, fun ad e => ?_⟩
          · rw [HV.out, List.length_append]; rfl
          · rw [HV.out, List.length_append, pv_append]; exact hown2
          · injection e with e
            subst e
            rcases hg with hg | hg
            · exact hnew _ hg
            · rw [hg]; simp; omega
        have hK' : RKept w w1 gk (lay K (keeps stF (L.take (k + 1)))) := by
          rw [HL.out]
          obtain ⟨c, hc, ht⟩ := hK.hk
          refine ⟨⟨c, (hgr.block gk (by simp; omega) fun e => ?_).trans ((Below.heap_alloc _ _ _ (by omega)).trans hc), ht⟩, (hK.only.alloc _).grown hgr fun b e => ?_⟩
          · rcases A' with _ | ad
            · cases e
            · injection e with e
              have := hnew ad rfl
              rw [← show gk = ad.block from e] at this
              omega
          · rcases A' with _ | ad
            · cases e
            · injection e with e
              subst e
              exact .inr (hnew ad rfl)
        clear hown2 hgr hg HO
        go_roundw
        case rel => exact ⟨k + 1, by go_num, by omega, hR', hK'⟩
        case measure => simp [intOf]; omega
      · rw [hb] at x2
        have hst : stF k p = true := hb
        rw [hst] at hl hv
        simp only [if_true, List.append_nil] at hl hv
        have HL := Lib.hid hl
        have HV := Lib.hid hv
        have hR' := hR.stored h.hk.lt p.pos (.int .u64 (p.word : Nat))
        obtain ⟨A', c', rfl, hown, hnew⟩ := hR
        clear hl hv hst hb
        go_wp2
        go_region
        go_wp2
        go_roundw
        case rel => exact ⟨k + 1, by go_num, by omega, by rw [HV.out]; exact hR', by rw [HL.out]; exact hset.out⟩
        case measure => simp [intOf]; omega
    · obtain rfl : k = L.length := by omega
      rw [List.take_length] at hR hK hd
      have f := hd.f 1
      have ho : Only F w wr := Only.trans (Only.refl F w) hK.only fun i hi => .inl (by rw [hi]; exact f2)
      have hT := hd.rested hR (lt_of_cells h.hg) ho f1 f2 f5
      obtain ⟨A', c', rfl, hown, hnew⟩ := hR
      go_wp2
      go_end0
      exact ⟨rfl, hT⟩
end
end Go.Proofs.Ytghppmgieljgiaa
