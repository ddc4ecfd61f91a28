/- GeomApart: whatever it is called with, it hands back true; nothing that was there has turned. -/
import Derived.Test.YthimikdhdcjneaaLawApart0
namespace Go.Proofs.Ythimikdhdcjneaa
open Go.RowKit
/-- A block of a region. -/
def Rx (w : World) (b : Nat) (k n o : Int) : Prop := w.heap[b]? = some (.cells #[.int .u8 k, .int .i64 n, .int .i64 o] 35 (0, 0))
theorem Rx.lt {w : World} {b : Nat} {k n o : Int} (h : Rx w b k n o) : b < w.heap.size := lt_of_cells h
theorem Rx.below {w w' : World} {b m : Nat} {k n o : Int} (h : Rx w b k n o) (hb : Below m w w') (hk : b < m) : Rx w' b k n o := (hb.block b hk).trans h
theorem Rx.set {w : World} {b : Nat} {k n o : Int} (h : Rx w b k n o) (k' n' o' : Int) : Rx (((w.setCell ⟨b, 0, none⟩ (.int .u8 k')).setCell ⟨b, 1, none⟩ (.int .i64 n')).setCell ⟨b, 2, none⟩ (.int .i64 o')) b k' n' o' := by
  unfold Rx at h ⊢
  have h1 := heap_setCell_same w b 0 _ _ (.int .u8 k') h
  have h2 := heap_setCell_same _ b 1 _ _ (.int .i64 n') h1
  have h3 := heap_setCell_same _ b 2 _ _ (.int .i64 o') h2
  exact h3
theorem Bx.other {w : World} {b g i : Nat} {P I B : Int} {v : Value} (h : Bx w b P I B) (hne : b ≠ g) : Bx (w.setCell ⟨g, i, none⟩ v) b P I B := (Below.heap_setCell w ⟨g, i, none⟩ v b hne).trans h
/-- What holds ahead of each word. -/
structure At (w wr : World) (b : Nat) (P I B a k n o : Nat) : Prop where
  g : Bx wr w.heap.size P I B
  r : Rx wr b k n o
  bef : Before P I B a k n o
  gb : w.heap.size < b
  below : Below w.heap.size w wr
theorem At.set {w wr w' : World} {b : Nat} {P I B a k n o k' n' o' : Nat} (h : At w wr b P I B a k n o) (hb : Below wr.heap.size wr w') (h' : WhatA P I B a k' n' o') :
    At w (((w'.setCell ⟨b, 0, none⟩ (.int .u8 (k' : Nat))).setCell ⟨b, 1, none⟩ (.int .i64 (n' : Nat))).setCell ⟨b, 2, none⟩ (.int .i64 (o' : Nat))) b P I B (a + 1) k' n' o' := by
  have hne : w.heap.size ≠ b := Nat.ne_of_lt h.gb
  exact ⟨(((h.g.below hb h.g.lt).other hne).other hne).other hne, (h.r.below hb h.r.lt).set _ _ _, .inr ⟨by omega, h'⟩, h.gb, below_set (below_set (below_set (h.below.trans (hb.mono h.below.size)) (Nat.le_of_lt h.gb) _ _) (Nat.le_of_lt h.gb) _ _) (Nat.le_of_lt h.gb) _ _⟩
theorem At.pass {w wr w' : World} {b : Nat} {P I B a k n o : Nat} (h : At w wr b P I B a k n o) (hb : Below wr.heap.size wr w') : At w w' b P I B a k n o :=
  ⟨h.g.below hb h.g.lt, h.r.below hb h.r.lt, h.bef, h.gb, h.below.trans (hb.mono h.below.size)⟩
theorem what_last (P I B : Nat) (w : World) (h : GOK P I B) : Calls Try.prog 16 #[gv P I B, .int .i64 (8 * (2 + I + 17 * P + 4 * B : Nat))] w fun e w' => e = .returned (.tuple #[reg 0 0 0, .int .i64 3]) ∧ Below w.heap.size w w' :=
  what_out P I B _ w h (.inr (Int.le_refl _))
theorem what_neg (P I B : Nat) (w : World) (h : GOK P I B) : Calls Try.prog 16 #[gv P I B, .int .i64 (-1)] w fun e w' => e = .returned (.tuple #[reg 0 0 0, .int .i64 3]) ∧ Below w.heap.size w w' :=
  what_out P I B _ w h (.inl (by decide))
theorem apart_bad (P I B : Int) (w : World) (h : ¬ GOK P I B) : Calls Try.prog 5 #[gv P I B] w fun e w' => e = .returned (.bool true) ∧ Below w.heap.size w w' := by
  have HG := Lib.hid h
  clear h
  go_enter Try.func5, Try.ntmps5
  go_wp2_with (fail)
  refine (lines_bad P I B _ HG.out).mono ?_
  rintro e w1 ⟨rfl, hb1⟩
  have bw1 := below_alloc hb1
  go_wp2_with (fail)
  refine (alive_calls _).mono ?_
  rintro e w2 ⟨rfl, hb2⟩
  go_wp2
  go_ret
  exact ⟨rfl, bw1.trans (hb2.mono bw1.size)⟩
set_option maxRecDepth 100000 in
theorem apart_good (P I B : Nat) (w : World) (h : GOK P I B) : Calls Try.prog 5 #[gv P I B] w fun e w' => e = .returned (.bool true) ∧ Below w.heap.size w w' := by
  have hn : 2 + I + 17 * P + 4 * B ≤ 4096 := by unfold GOK at h; omega
  have hn0 : 1 ≤ 2 + I + 17 * P + 4 * B := by omega
  have C1 := fun W => lines_ok P I B W h
  have C2 := fun a W (ha : a < 8 * (2 + I + 17 * P + 4 * B)) => what_at P I B a W h ha
  have C3 := fun W => what_last P I B W h
  have C4 := fun W => what_neg P I B W h
  have C5 : ∀ k n o, WhatA P I B (8 * (2 + I + 17 * P + 4 * B) - 1) k n o → k = 5 ∧ n = B ∧ o = 31 := fun k n o hw => last_ok (by have := h.1.1; omega) (by have := h.2.2.1; omega) hw
  have hP1 : 1 ≤ P := by have := h.1.1; omega
  have hI1 : 1 ≤ I := by have := h.2.1.1; omega
  have hB1 : 1 ≤ B := by have := h.2.2.1; omega
  have hIPB : I + P + B ≤ 400 := by unfold GOK at h; omega
  generalize 2 + I + 17 * P + 4 * B = m at *
  have hm1 : decide ((m : Int) < 1) = false := by rw [decide_eq_false_iff_not]; omega
  have hm2 : decide (4096 < (m : Int)) = false := by rw [decide_eq_false_iff_not]; omega
  have H1 := Lib.hid C1
  have H2 := Lib.hid C2
  have H3 := Lib.hid C3
  have H4 := Lib.hid C4
  have H5 := Lib.hid C5
  have HG := Lib.hid h
  clear C1 C2 C3 C4 C5 h
  go_enter Try.func5, Try.ntmps5
  go_wp2_with (fail)
  refine (H1.out _).mono ?_
  rintro e w1 ⟨rfl, hb1⟩
  have x1 := Bx.later hb1 rfl
  have bw1 := below_alloc hb1
  clear hb1
  go_wp2
  go_loopw [6] (fun i wr => ∃ a k n o : Nat, i = .int .i64 (a : Nat) ∧ a ≤ 8 * m ∧ At w wr w1.heap.size P I B a k n o) (fun i _ => 8 * m - (intOf i).toNat)
  case atStart =>
    refine ⟨0, 0, 0, 0, rfl, Nat.zero_le _, ⟨x1.below ((Below.refl _ _).alloc (Nat.le_refl _) _) x1.lt, heap_alloc_new w1 _, .inl ⟨rfl, rfl, rfl, rfl⟩, x1.lt, bw1.alloc bw1.size _⟩⟩
  case round =>
    obtain ⟨a, k, n, o, rfl, ha, hat⟩ := hrel
    obtain ⟨b0, b1, b2⟩ := hat.g.cells
    generalize w1.heap.size = gb at *
    by_cases hlt : a < 8 * m
    · go_wp2_with (fail)
      refine (H2.out a wr hlt).mono ?_
      rintro e w2 ⟨k', n', o', rfl, hok, hb2⟩
      have hw := hok.nums
      have hnx := next_ok hI1 hP1 hB1 hat.bef hw
      have hle := hw.le
      have hx2 : Rx w2 gb k n o := hat.r.below hb2 hat.r.lt
      have hl2 := hx2.lt
      have hl3 : w.heap.size < w2.heap.size := Nat.lt_of_lt_of_le hat.g.lt hb2.size
      have hg2 := hat.g.below hb2 hat.g.lt
      have hgne := hat.gb
      have hatn : ∀ w', Below w2.heap.size w2 w' → Hid (At w (((w'.setCell ⟨gb, 0, none⟩ (.int .u8 (k' : Nat))).setCell ⟨gb, 1, none⟩ (.int .i64 (n' : Nat))).setCell ⟨gb, 2, none⟩ (.int .i64 (o' : Nat))) gb P I B (a + 1) k' n' o') := fun w' hb => Lib.hid (hat.set (hb2.trans (hb.mono hb2.size)) hw)
      have HA := Lib.hid hatn
      have HW := Lib.hid hw
      clear hok hw hatn b0 b1 b2
      obtain ⟨⟨r0, r1, r2⟩, f0, f1, f2⟩ := three_own hx2
      rcases hnx with ⟨rfl, rfl, ho⟩ | ⟨ho, ha8, hfa, hkn⟩
      · have ho2 : ((o' : Int) != (o : Int) + 1) = false := by rw [bne_eq_false_iff_eq]; omega
        have ho3 : o ≤ 136 := by omega
        have hst := HA.out w2 (Below.refl _ _)
        clear ho hle hat HA
        go_wp2
        go_roundw
        case rel => exact ⟨a + 1, k', n', o', by go_num, by omega, hst.out.pass ((Below.refl _ _).alloc (Nat.le_refl _) _)⟩
        case measure => simp [intOf]; omega
      · have ho2 : ((o' : Int) != 0) = false := by rw [bne_eq_false_iff_eq]; omega
        have ha9 : ((a : Int) % 8 != 0) = false := by rw [bne_eq_false_iff_eq]; omega
        have HF := Lib.hid hfa
        clear ho ha8 hfa hle
        obtain ⟨b0, b1, b2⟩ := hg2.cells
        by_cases hkk : k < k'
        · have t1 : k ≤ k' := by omega
          have t3 : (k' == k) = false := by rw [beq_eq_false_iff_ne]; omega
          have t2 : ((k' : Int) == (k : Int)) = false := by rw [beq_eq_false_iff_ne]; omega
          clear hkn hkk
          clear hat
          go_wp2_with (fail)
          refine (first_calls P I B k' n' a (o' : Int) _ HG.out HF.out).mono ?_
          rintro e w3 ⟨rfl, hb3⟩
          have hb3' := below_alloc hb3
          have hy3 := three_cells (alloc_later hb3)
          have hx3 : Rx w3 gb k n o := hx2.below hb3' hx2.lt
          have hst := HA.out w3 hb3'
          clear r0 r1 r2 f0 f1 f2 b0 b1 b2
          obtain ⟨⟨r0, r1, r2⟩, f0, f1, f2⟩ := three_own hx3
          obtain ⟨y0, y1, y2⟩ := hy3
          go_wp2
          go_roundw
          case rel => exact ⟨a + 1, k', n', o', by go_num, by omega, hst.out⟩
          case measure => simp [intOf]; omega
        · obtain ⟨rfl, hnn⟩ : k' = k ∧ n < n' := by omega
          have t1 : n ≤ n' := by omega
          have t3 : (n' == n) = false := by rw [beq_eq_false_iff_ne]; omega
          have t2 : ((n' : Int) == (n : Int)) = false := by rw [beq_eq_false_iff_ne]; omega
          clear hkn hkk hnn
          clear hat
          go_wp2_with (fail)
          refine (first_calls P I B k' n' a (o' : Int) _ HG.out HF.out).mono ?_
          rintro e w3 ⟨rfl, hb3⟩
          have hb3' := below_alloc hb3
          have hy3 := three_cells (alloc_later hb3)
          have hx3 : Rx w3 gb k' n o := hx2.below hb3' hx2.lt
          have hst := HA.out w3 hb3'
          clear r0 r1 r2 f0 f1 f2 b0 b1 b2
          obtain ⟨⟨r0, r1, r2⟩, f0, f1, f2⟩ := three_own hx3
          obtain ⟨y0, y1, y2⟩ := hy3
          go_wp2
          go_roundw
          case rel => exact ⟨a + 1, k', n', o', by go_num, by omega, hst.out⟩
          case measure => simp [intOf]; omega
    · obtain ⟨rfl, rfl, rfl⟩ : k = 5 ∧ n = B ∧ o = 31 := by
        rcases hat.bef with ⟨h0, _⟩ | ⟨_, hw⟩
        · omega
        · rw [show a = 8 * m by omega] at hw
          exact H5.out k n o hw
      have hr : Rx wr gb 5 n 31 := hat.r
      have hgx := hat.g
      have hgb := hat.gb
      have hbw := hat.below
      clear hat
      go_wp2_with (fail)
      refine (H3.out _).mono ?_
      rintro e w2 ⟨rfl, hb2⟩
      have g2 := hgx.below hb2 hgx.lt
      have r2 := hr.below hb2 hr.lt
      have bw2 := hbw.trans (hb2.mono hbw.size)
      clear b0 b1 b2 hgx hr hbw hb2
      have hl2 := g2.lt
      have hl3 := r2.lt
      obtain ⟨b0, b1, b2⟩ := g2.cells
      go_wp2_with (fail)
      refine (H4.out _).mono ?_
      rintro e w3 ⟨rfl, hb3⟩
      have hb3' := below_alloc hb3
      have g3 := g2.below hb3' g2.lt
      have r3 := r2.below hb3' r2.lt
      have bw3 := bw2.trans (hb3'.mono bw2.size)
      clear b0 b1 b2 g2 r2 bw2 hb3 hb3' hl2 hl3
      have hl2 := g3.lt
      have hl3 := r3.lt
      obtain ⟨b0, b1, b2⟩ := g3.cells
      obtain ⟨r0, r1, r2⟩ := three_cells r3
      go_wp2_with (fail)
      refine (alive_calls _).mono ?_
      rintro e w4 ⟨rfl, hb4⟩
      go_wp2
      go_ret
      have bw3' := bw3.alloc bw3.size (.cells #[.int .u8 0, .int .i64 0, .int .i64 0] 35)
      exact ⟨rfl, bw3'.trans (hb4.mono bw3'.size)⟩
theorem apart_calls (P I B : Int) (w : World) : Calls Try.prog 5 #[gv P I B] w fun e w' => e = .returned (.bool true) ∧ Below w.heap.size w w' := by
  by_cases h : GOK P I B
  · obtain ⟨p, i, b, rfl, rfl, rfl⟩ : ∃ p i b : Nat, P = p ∧ I = i ∧ B = b := ⟨P.toNat, I.toNat, B.toNat, by have := h.1.1; omega, by have := h.2.1.1; omega, by have := h.2.2.1; omega⟩
    exact apart_good p i b w h
  · exact apart_bad P I B w h
end Go.Proofs.Ythimikdhdcjneaa
