/- The places of the numbers of a superblock, made by a closure. -/
import Derived.Test.YtgedahjifbopcaaDoorCel
import Derived.Test.YtgedahjifbopcaaDoorGeoCk
import Derived.Test.YtgedahjifbopcaaDoorRefTx
import Derived.Laws.NewBlocks
namespace Go.Proofs.YtgedahjifbopcaaDoor
open Go.RowKit
theorem place_info : (Tryd.prog.info? 66).map (fun i => (i.zero, i.size, i.bytes)) = some (some (.agg #[.int .i64 0, .int .i64 0, .pointer none]), 3, 24) := by kernel_rfl
/-- What lies while the places are laid: the row (its slice in block B), where the next one begins (in block B + 1). -/
structure Pl (B : Nat) (w0 w : World) (n : Nat) (q : Int) (xs : List Value) : Prop where
  row : ∃ A c, w.heap[B]? = some (.cells #[.slice A n c] 61 (0, 0)) ∧ OwnR w 66 3 A n c xs ∧ ∀ ad, A = some ad → B + 2 ≤ ad.block
  next : w.heap[B + 1]? = some (.cells #[.int .i64 q] 3 (0, 0))
  below : Below B w0 w
theorem one_cell {w0 : World} {B : Nat} {x : Value} {t : TypeId} (hw : w0.heap[B]? = some (.cells #[x] t (0, 0))) : w0.cell? ⟨B, 0, none⟩ = some x := cell_of_row w0 B 0 _ t (0, 0) hw
theorem one_frozen {w0 : World} {B : Nat} {xs : Array Value} {t : TypeId} (hw : w0.heap[B]? = some (.cells xs t (0, 0))) (j : Nat) : w0.frozen? ⟨B, j, none⟩ = false := by simp [World.frozen?, hw]
theorem cells_new {w0 : World} {g : Nat} {xs : List Value} {t : TypeId} {f : Nat × Nat} (hw : w0.heap[g]? = some (.cells xs.toArray t f)) :
    ∀ j u, xs[j]? = some u → w0.cell? ((⟨g, 0, none⟩ : Addr).add j) = some u := by
  intro j u hu
  rw [add_zero_block, cell_of_row w0 g j _ t f hw, ← hu, List.getElem?_toArray]
theorem one_set {w0 : World} {B : Nat} {x : Value} {t : TypeId} (hw : w0.heap[B]? = some (.cells #[x] t (0, 0))) (y : Value) : (w0.setCell ⟨B, 0, none⟩ y).heap[B]? = some (.cells #[y] t (0, 0)) := by
  simp [World.setCell, Array.getElem?_modify, hw]
theorem heap_set_other {w0 : World} {p : Addr} {y : Value} {k : Nat} (h : k ≠ p.block) : (w0.setCell p y).heap[k]? = w0.heap[k]? := Below.heap_setCell w0 p y k h
theorem Pl.step {B : Nat} {w0 w w1 : World} {n : Nat} {q d : Int} {xs news : List Value} {A : Option Addr} {c c' g' : Nat} {o : Obj} (h : Pl B w0 w n q xs)
    (hl : w.heap[B]? = some (.cells #[.slice A n c] 61 (0, 0))) (hA : ∀ ad, A = some ad → B + 2 ≤ ad.block)
    (hown : OwnR w1 66 3 (some ⟨g', 0, none⟩) (n + 1) c' (xs ++ news)) (hgr : (w.alloc o).grownBy w1 (A.map (·.block))) (hg : A = some ⟨g', 0, none⟩ ∨ g' = (w.alloc o).heap.size) :
    w1.heap[B]? = some (.cells #[.slice A n c] 61 (0, 0)) ∧ w1.heap[B + 1]? = some (.cells #[.int .i64 q] 3 (0, 0)) ∧
    Pl B w0 ((w1.setCell ⟨B, 0, none⟩ (.slice (some ⟨g', 0, none⟩) (n + 1) c')).setCell ⟨B + 1, 0, none⟩ (.int .i64 (q + d))) (n + 1) (q + d) (xs ++ news) := by
  have hBl := lt_of_cells h.next
  have hne : ∀ k, k ≤ B + 1 → ∀ k', A.map (·.block) = some k' → k ≠ k' := by
    intro k hk k' e
    cases A with
    | none => cases e
    | some ad =>
      have := hA ad rfl
      have e2 : ad.block = k' := by simpa using e
      omega
  have hk : ∀ k, k ≤ B + 1 → w1.heap[k]? = w.heap[k]? := fun k hk => (hgr.block k (by simp; omega) (fun e => hne k hk k e.symm rfl)).trans (Below.heap_alloc _ _ _ (by omega))
  have h0 := (hk B (by omega)).trans hl
  have h1 := (hk (B + 1) (Nat.le_refl _)).trans h.next
  refine ⟨h0, h1, ⟨⟨some ⟨g', 0, none⟩, c', ?_, ?_, ?_⟩, ?_, ?_⟩⟩
  · rw [heap_set_other (by simp)]; exact one_set h0 _
  · refine hown.keep fun ad e => ?_
    injection e with e
    subst e
    have hgB : B + 2 ≤ g' := by
      rcases hg with hg | hg
      · exact hA _ hg
      · rw [hg]; simp; omega
    rw [heap_set_other (by simp; omega), heap_set_other (by simp; omega)]
  · intro ad e
    injection e with e
    subst e
    rcases hg with hg | hg
    · exact hA _ hg
    · rw [hg]; simp; omega
  · exact one_set ((heap_set_other (by simp)).trans h1) _
  · refine ((Below.setCell ?_ (by simp) _).setCell (by simp) _)
    refine ⟨hgr.os.trans h.below.os, hgr.tape.trans h.below.tape, hgr.output.trans h.below.output, ?_, fun k hkB => (hk k (by omega)).trans (h.below.block k hkB)⟩
    have := hgr.size
    simp at this
    have := h.below.size
    omega
set_option maxRecDepth 100000 in
theorem closure_calls (B : Nat) (w0 w : World) (n : Nat) (q d : Int) (p : Addr) (xs : List Value) (h : Pl B w0 w n q xs) (hn : n ≤ 100) (hq : 0 ≤ q) (hq2 : q ≤ 1000) (hd : 0 ≤ d) (hd2 : d ≤ 1000) :
    Calls Tryd.prog 41 #[.int .i64 d, .pointer (some p), .pointer (some ⟨B, 0, none⟩), .pointer (some ⟨B + 1, 0, none⟩)] w fun e w' => e = .returned (.tuple #[]) ∧ Pl B w0 w' (n + 1) (q + d) (xs ++ [.int .i64 q, .int .i64 d, .pointer (some p)]) := by
  obtain ⟨i0, hi0, hz0, hs0, hb0⟩ := info_parts place_info
  have HI := Lib.hid hi0
  have HZ := Lib.hid hz0
  have HS := Lib.hid hs0
  have HB := Lib.hid hb0
  clear hi0 hz0 hs0 hb0
  obtain ⟨A, c, hl, hown, hA⟩ := h.row
  have c0 := one_cell hl
  have f0 := one_frozen hl 0
  have c1 := one_cell h.next
  have f1 := one_frozen h.next 0
  have HO := Lib.hid (fun o => hown.keep (w' := w.alloc o) fun ad e => Below.heap_alloc _ _ _ (hown.lt ad e))
  have hlt0 := lt_of_cells hl
  have hlt1 := lt_of_cells h.next
  have HP := Lib.hid h
  have HL := Lib.hid hl
  have HA := Lib.hid hA
  clear hown h hl hA
  go_enter Tryd.func41, Tryd.ntmps41
  go_wp2_with (at_builtin; refine wpList_append_r rfl (.tmp 6) (.tmp 11) 61 rfl 66 i0 _ 3 24 Tryd.underlying61 HI.out HZ.out HS.out HB.out rfl A n c xs rfl (HO.out _) ⟨w.heap.size, 0, none⟩ 1 1 [.int .i64 q, .int .i64 d, .pointer (some p)] rfl rfl (cells_new (heap_alloc_new _ _)) (by simp [Value.oneCell']) (by decide) (by unfold maxLen; omega) (by omega) ?_; intro g' c2 w1 hown2 hgr hg; obtain ⟨e0, e1, hst⟩ := HP.out.step (d := d) HL.out HA.out hown2 hgr hg; have c0' := one_cell e0; have f0' := one_frozen e0 0; have c1' := one_cell e1; have f1' := one_frozen e1 0; clear e0 e1 hown2 hgr hg)
  go_end0
  exact ⟨rfl, hst⟩
/-- The places, as cells. -/
def plc (gb mb : Nat) : List Value := [.int .i64 0, .int .i64 16, .pointer (some ⟨gb, 0, none⟩), .int .i64 16, .int .i64 16, .pointer (some ⟨gb, 1, none⟩), .int .i64 32, .int .i64 16, .pointer (some ⟨gb, 2, none⟩), .int .i64 48, .int .i64 1, .pointer (some ⟨mb, 0, none⟩)]
/-- It hands back the places. -/
def GivesPl (gb mb : Nat) (w : World) (e : Ending) (w' : World) : Prop :=
  ∃ g c, e = .returned (.slice (some ⟨g, 0, none⟩) 4 c) ∧ Cel w' (some ⟨g, 0, none⟩) (plc gb mb) ∧ w.heap.size ≤ g ∧ g < w'.heap.size ∧ Below w.heap.size w w'
theorem Pl.begin (w : World) : Pl w.heap.size w ((w.alloc (.cells #[.slice none 0 0] 61)).alloc (.cells #[.int .i64 0] 3)) 0 0 [] := by
  refine ⟨⟨none, 0, ?_, OwnR.nil _ _ _, fun ad h => by cases h⟩, ?_, ?_⟩
  · exact (Below.heap_alloc _ _ _ (by simp)).trans (heap_alloc_new w _)
  · have := heap_alloc_new (w.alloc (.cells #[.slice none 0 0] 61)) (.cells #[.int .i64 0] 3)
    rwa [World.size_alloc] at this
  · exact ((Below.refl _ _).alloc (Nat.le_refl _) _).alloc (by simp) _
set_option maxRecDepth 100000 in
theorem places_calls (gb mb : Nat) (w : World) : Calls Tryd.prog 26 #[.pointer (some ⟨gb, 0, none⟩), .pointer (some ⟨mb, 0, none⟩)] w (GivesPl gb mb w) := by
  have H0 := Lib.hid (Pl.begin w)
  go_enter Tryd.func26, Tryd.ntmps26
  go_wp2_with (fail)
  refine (closure_calls w.heap.size w _ 0 0 16 _ [] H0.out (by omega) (by omega) (by omega) (by omega) (by omega)).mono ?_
  rintro e w1 ⟨rfl, h1⟩
  go_wp2_with (fail)
  refine (closure_calls w.heap.size w _ _ _ 16 _ _ h1 (by omega) (by omega) (by omega) (by omega) (by omega)).mono ?_
  rintro e w2 ⟨rfl, h2⟩
  go_wp2_with (fail)
  refine (closure_calls w.heap.size w _ _ _ 16 _ _ h2 (by omega) (by omega) (by omega) (by omega) (by omega)).mono ?_
  rintro e w3 ⟨rfl, h3⟩
  go_wp2_with (fail)
  refine (closure_calls w.heap.size w _ _ _ 1 _ _ h3 (by omega) (by omega) (by omega) (by omega) (by omega)).mono ?_
  rintro e w4 ⟨rfl, h4⟩
  obtain ⟨A, c, hl, hown, hA⟩ := h4.row
  have c0 := one_cell hl
  have hb := h4.below
  have hcel : Cel w4 A (plc gb mb) := hown.cel
  have hlt := hown.lt
  have hform : ∃ g, A = some ⟨g, 0, none⟩ := by
    obtain ⟨_, h1, _, hor⟩ := hown
    rcases hor with ⟨_, h2⟩ | ⟨g, _, h2, _⟩
    · omega
    · exact ⟨g, h2⟩
  obtain ⟨g, rfl⟩ := hform
  have hgl := hlt _ rfl
  have hgB := hA _ rfl
  clear h1 h2 h3 h4 hown hl hA hlt H0
  go_wp2_with (fail)
  go_ret
  exact ⟨g, c, rfl, hcel, by omega, hgl, hb⟩
end Go.Proofs.YtgedahjifbopcaaDoor
