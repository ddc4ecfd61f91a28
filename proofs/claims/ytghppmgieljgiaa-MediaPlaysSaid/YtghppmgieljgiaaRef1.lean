/- The document's own device: in memory; New, Of, Is, Store. -/
import Derived.Test.YtghppmgieljgiaaFlush
namespace Go.Proofs.Ytghppmgieljgiaa
open Go.RowKit
/-- Its blocks. -/
structure RDevC (w : World) (g gk ck : Nat) (A : Option Addr) (cp : Nat) (K : List Nat) (L : List Pn) : Prop where
  hg : w.heap[g]? = some (.cells #[.slice (some ⟨gk, 0, none⟩) K.length ck, .slice A L.length cp] 52 (0, 0))
  hk : Blkp 32 w gk K
  hp : OwnR w 61 3 A L.length cp (pv L)
  kc : K.length ≤ ck
def RDev (w : World) (g : Nat) (F : Nat → Prop) (K : List Nat) (L : List Pn) : Prop :=
  ∃ gk ck A cp, RDevC w g gk ck A cp K L ∧ F g ∧ F gk ∧ (∀ ad, A = some ad → F ad.block) ∧ ∀ i, F i → i < w.heap.size
def RTurn (w : World) (g : Nat) (F : Nat → Prop) (K : List Nat) (L : List Pn) (w' : World) : Prop :=
  ∃ F', RDev w' g F' K L ∧ Only F w w' ∧ ∀ i, F' i → F i ∨ w.heap.size ≤ i
section
variable {w w' : World} {g gk ck cp : Nat} {A : Option Addr} {K : List Nat} {L : List Pn} {F : Nat → Prop}
theorem RTurn.mk {F' : Nat → Prop} (h : RDevC w' g gk ck A cp K L) (ho : Only F w w') (fg : F' g) (fk : F' gk) (fp : ∀ ad, A = some ad → F' ad.block)
    (hF : ∀ i, F' i → (F i ∨ w.heap.size ≤ i) ∧ i < w'.heap.size) : RTurn w g F K L w' :=
  ⟨F', ⟨gk, ck, A, cp, h, fg, fk, fp, fun i hi => (hF i hi).2⟩, ho, fun i hi => (hF i hi).1⟩
theorem RDevC.gk_ne (h : RDevC w g gk ck A cp K L) : g ≠ gk := by
  obtain ⟨cur, hc, _⟩ := h.hk
  exact cells_type h.hg hc (by decide)
theorem RDevC.gp_ne {ad : Addr} (h : RDevC w g gk ck (some ad) cp K L) : g ≠ ad.block ∧ gk ≠ ad.block := by
  obtain ⟨_, _, _, h3⟩ := h.hp
  rcases h3 with ⟨h3, _⟩ | ⟨gp, cur, h3, hc, _⟩
  · cases h3
  · injection h3 with h3
    subst h3
    obtain ⟨c1, h1, _⟩ := h.hk
    exact ⟨cells_type h.hg hc (by decide), cells_type h1 hc (by decide)⟩
theorem RDevC.pc (h : RDevC w g gk ck A cp K L) : L.length ≤ cp := h.hp.2.1
theorem RDevC.pm (h : RDevC w g gk ck A cp K L) : cp ≤ maxLen := h.hp.2.2.1
theorem RDevC.c0 (h : RDevC w g gk ck A cp K L) : w.cell? ⟨g, 0, none⟩ = some (.slice (some ⟨gk, 0, none⟩) K.length ck) := cell_of_row w g 0 _ _ (0, 0) h.hg
theorem RDevC.c1 (h : RDevC w g gk ck A cp K L) : w.cell? ⟨g, 1, none⟩ = some (.slice A L.length cp) := cell_of_row w g 1 _ _ (0, 0) h.hg
theorem RDevC.f (h : RDevC w g gk ck A cp K L) (i : Nat) : w.frozen? ⟨g, i, none⟩ = false := frozen_of_row w g i _ _ h.hg
theorem RDevC.keep (h : RDevC w g gk ck A cp K L) (hb : ∀ i, (i = g ∨ i = gk ∨ ∃ ad, A = some ad ∧ i = ad.block) → w'.heap[i]? = w.heap[i]?) : RDevC w' g gk ck A cp K L := by
  refine ⟨(hb g (.inl rfl)).trans h.hg, ?_, ?_, h.kc⟩
  · obtain ⟨cur, hc, ht⟩ := h.hk
    exact ⟨cur, (hb gk (.inr (.inl rfl))).trans hc, ht⟩
  · exact h.hp.keep fun ad hA => hb _ (.inr (.inr ⟨ad, hA, rfl⟩))
theorem RDevC.lt (h : RDevC w g gk ck A cp K L) : ∀ i, (i = g ∨ i = gk ∨ ∃ ad, A = some ad ∧ i = ad.block) → i < w.heap.size := fun i hi => by
  rcases hi with rfl | rfl | ⟨ad, e, rfl⟩
  · exact lt_of_cells h.hg
  · exact h.hk.lt
  · exact h.hp.lt ad e
theorem RDevC.below (h : RDevC w g gk ck A cp K L) (hb : Below w.heap.size w w') : RDevC w' g gk ck A cp K L := h.keep fun i hi => hb.block i (h.lt i hi)
theorem RDev.keep (h : RDev w g F K L) (hb : ∀ i, F i → w'.heap[i]? = w.heap[i]?) (hs : w.heap.size ≤ w'.heap.size) : RDev w' g F K L := by
  obtain ⟨gk, ck, A, cp, hd, f1, f2, f4, f5⟩ := h
  refine ⟨gk, ck, A, cp, hd.keep fun i hi => hb i ?_, f1, f2, f4, fun i hi => Nat.lt_of_lt_of_le (f5 i hi) hs⟩
  rcases hi with rfl | rfl | ⟨ad, e, rfl⟩
  · exact f1
  · exact f2
  · exact f4 ad e
theorem RDev.lt (h : RDev w g F K L) : ∀ i, F i → i < w.heap.size := by
  obtain ⟨_, _, _, _, _, _, _, _, h5⟩ := h; exact h5
theorem RDev.below (h : RDev w g F K L) (hb : Below w.heap.size w w') : RDev w' g F K L := h.keep (fun i hi => hb.block i (h.lt i hi)) hb.size
theorem RDev.drewN (h : RDev w g F K L) (n : Nat) : RDev (w.drewN n) g F K L := h.keep (fun _ _ => rfl) (Nat.le_refl _)
theorem RDev.other {F' : Nat → Prop} (h : RDev w g F K L) (ho : Only F' w w') (hd : ∀ i, F i → ¬ F' i) : RDev w' g F K L :=
  h.keep (fun i hi => ho.block i (h.lt i hi) (hd i hi)) ho.size
/-- A store was appended, and the row stored back. -/
theorem RDevC.pushed (h : RDevC w g gk ck A cp K L) (p : Pn) {o : Obj} {w1 : World} {g' c' : Nat} (hown : OwnR w1 61 3 (some ⟨g', 0, none⟩) (L.length + 1) c' (pv L ++ pv [p]))
    (hgr : (w.alloc o).grownBy w1 (A.map (·.block))) :
    RDevC (w1.setCell ⟨g, 1, none⟩ (.slice (some ⟨g', 0, none⟩) (L.length + 1) c')) g gk ck (some ⟨g', 0, none⟩) c' K (L ++ [p]) ∧ w1.cell? ⟨g, 1, none⟩ = some (.slice A L.length cp) ∧ w1.frozen? ⟨g, 1, none⟩ = false := by
  have old : ∀ i, i < w.heap.size → (∀ ad, A = some ad → i ≠ ad.block) → w1.heap[i]? = w.heap[i]? := fun i hi hn =>
    (hgr.block i (by simp; omega) fun e => by
      rcases A with _ | ad
      · cases e
      · injection e with e
        exact hn ad rfl e).trans (Below.heap_alloc _ _ _ hi)
  have n0 : ∀ ad, A = some ad → g ≠ ad.block := fun ad e => by subst e; exact h.gp_ne.1
  have n1 : ∀ ad, A = some ad → gk ≠ ad.block := fun ad e => by subst e; exact h.gp_ne.2
  have hg1 := (old g (lt_of_cells h.hg) n0).trans h.hg
  refine ⟨⟨?_, ?_, ?_, h.kc⟩, cell_of_row w1 g 1 _ _ (0, 0) hg1, frozen_of_row w1 g 1 _ _ hg1⟩
  · rw [heap_setCell_same _ _ _ _ _ _ hg1, List.length_append]
    rfl
  · obtain ⟨c, hc, ht⟩ := h.hk
    exact ⟨c, (Below.heap_setCell _ _ _ _ (Ne.symm h.gk_ne)).trans ((old gk h.hk.lt n1).trans hc), ht⟩
  · rw [pv_append, List.length_append]
    refine hown.keep fun ad e => Below.heap_setCell _ _ _ _ ?_
    obtain ⟨_, _, _, h4⟩ := hown
    rcases h4 with ⟨h4, _⟩ | ⟨gp, cur, h4, hc, _⟩
    · cases h4
    · injection h4 with h4
      injection e with e
      subst e
      injection h4 with h4
      subst h4
      exact (cells_type (w := w1) hc hg1 (by decide))
theorem is_calls (h : RDevC w g gk ck A cp K L) (a : Int) (_ : K.length ≤ 9223372036854775807) (b : Bool) (hb : b = decide (0 ≤ a ∧ a < K.length)) :
    Calls Try.prog 14 #[.pointer (some ⟨g, 0, none⟩), .int .i64 a] w fun e w' => e = .returned (.bool b) ∧ w = w' := by
  have c0 := h.c0
  clear h
  by_cases h0 : 0 ≤ a
  · by_cases h1 : a < K.length
    · obtain rfl : b = true := by rw [hb, decide_eq_true_eq]; exact ⟨h0, h1⟩
      clear hb
      go_enter Try.func14, Try.ntmps14
      go_wp2
      go_ret
      exact ⟨by simp, rfl⟩
    · obtain rfl : b = false := by rw [hb, decide_eq_false_iff_not]; omega
      clear hb
      have h2 : (K.length : Int) ≤ a := by omega
      go_enter Try.func14, Try.ntmps14
      go_wp2
      go_ret
      exact ⟨by simp, rfl⟩
  · obtain rfl : b = false := by rw [hb, decide_eq_false_iff_not]; omega
    clear hb
    have h1 : a < 0 := by omega
    go_enter Try.func14, Try.ntmps14
    go_wp2
    go_ret
    exact ⟨by simp, rfl⟩
theorem rstore_calls (h : RDev w g F K L) (a v : Nat) (hL : L.length ≤ 1099511627776) :
    Calls Try.prog 15 #[.pointer (some ⟨g, 0, none⟩), .int .i64 (a : Nat), .int .u64 (v : Nat)] w fun e w' => e = .returned (.tuple #[]) ∧ RTurn w g F K (L ++ [⟨a, v, false⟩]) w' := by
  obtain ⟨gk, ck, A, cp, hd, f1, f2, f4, f5⟩ := h
  obtain ⟨i0, hi0, hz0, hs0, hb0⟩ := info_parts pend_info
  have HI := Lib.hid hi0
  have HZ := Lib.hid hz0
  have HS := Lib.hid hs0
  have HB := Lib.hid hb0
  clear hi0 hz0 hs0 hb0
  have c1 := hd.c1
  have HO := Lib.hid (fun o => hd.hp.keep (w' := w.alloc o) fun ad e => Below.heap_alloc _ _ _ (f5 _ (f4 ad e)))
  go_enter Try.func15, Try.ntmps15
  go_wp2_with (at_builtin; refine wpList_append_r rfl (.tmp 10) (.tmp 14) 48 rfl 61 i0 _ 3 24 Try.underlying48 HI.out HZ.out HS.out HB.out rfl A L.length cp (pv L) rfl (HO.out _) ⟨w.heap.size, 0, none⟩ 1 1 (pv [⟨a, v, false⟩]) rfl rfl (cells_one ⟨a, v, false⟩ 61 (heap_alloc_new _ _)) (pv_one _) (by decide) (by unfold maxLen; omega) (by omega) ?_; intro g' c' w1 hown hgr hg; obtain ⟨d1, x0, x1⟩ := hd.pushed ⟨a, v, false⟩ hown hgr; clear c1)
  go_end0
  have hg' : F g' ∨ w.heap.size ≤ g' := by
    rcases hg with hg | hg
    · exact .inl (f4 _ hg)
    · exact .inr (by rw [hg]; simp)
  have ho : Only F w (w1.setCell ⟨g, 1, none⟩ (.slice (some ⟨g', 0, none⟩) (L.length + 1) c')) :=
    Only.setCell (p := ⟨g, 1, none⟩) (((Only.refl F w).alloc _).grown hgr fun k e => by
      rcases A with _ | ad
      · cases e
      · injection e with e
        subst e
        exact .inl (f4 _ rfl)) (.inl f1) _
  have hl := hown.lt _ rfl
  refine ⟨rfl, RTurn.mk (F' := fun i => F i ∨ i = g') d1 ho (.inl f1) (.inl f2) (fun ad e => by injection e with e; subst e; exact .inr rfl) fun i hi => ?_⟩
  rcases hi with hi | rfl
  · exact ⟨.inl hi, Nat.lt_of_lt_of_le (f5 i hi) ho.size⟩
  · exact ⟨hg', by simpa [World.setCell] using hl⟩
end
end Go.Proofs.Ytghppmgieljgiaa
