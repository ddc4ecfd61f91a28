/- The first word that has a number which no valid record of its kind has there. -/
import Derived.Test.YtppnicdhahgigaaDoorIno2
namespace Go.Proofs.YtppnicdhahgigaaDoor
open Go.RowKit
theorem bounds_calls (k P I B : Int) (w : World) : Calls Tryd.prog 35 #[.int .u8 k, gv P I B] w fun e w' => e = .returned (.tuple #[(loI k).v, (hiI k I B).v, .bool (okK k)]) ∧ Below w.heap.size w w' := by
  by_cases h1 : k = 1
  · subst h1; exact bounds_1 P I B w
  by_cases h2 : k = 2
  · subst h2; exact bounds_2 P I B w
  by_cases h3 : k = 3
  · subst h3; exact bounds_3 P I B w
  by_cases h0 : k = 0
  · subst h0; exact bounds_0 P I B w
  have e : okK k = false := by unfold okK; rw [decide_eq_false_iff_not]; omega
  have el : loI k = ⟨0, 0, 0, 0, 0, 0, 0, 0, 0, 0, 0, 0, 0⟩ := by unfold loI; simp [h1, h2, h3]
  have eh : hiI k I B = ⟨0, 0, 0, 0, 0, 0, 0, 0, 0, 0, 0, 0, 0⟩ := by unfold hiI; simp [h1, h2, h3]
  rw [e, el, eh]
  exact bounds_x k P I B w h1 h2 h3 h0
/-- The first of the words of a record that does not fit its bounds; 7: none. -/
def misB (x l m : Ino) (ok : Bool) : Int :=
  if (ok && wi x.L l.L m.L) = false then 0 else if wi x.S l.S m.S = false then 1 else if wi x.A l.A m.A = false then 2
  else if (wi x.M l.M m.M && headsB x l m) = false then 3 else if wi x.P l.P m.P = false then 4
  else if wi x.T l.T m.T = false then 5 else if wi x.C l.C m.C = false then 6 else 7
def misV (x : Ino) (I B : Int) : Int := misB x (loI x.K) (hiI x.K I B) (okK x.K)
theorem mis_all (P I B : Int) (x l m : Ino) (ok : Bool) (w : World) (hl : loI x.K = l) (hm : hiI x.K I B = m) (hk : okK x.K = ok) :
    Calls Tryd.prog 20 #[x.v, gv P I B] w fun e w' => e = .returned (.int .i64 (misB x l m ok)) ∧ Below w.heap.size w w' := by
  have hB := fun W => bounds_calls x.K P I B W
  rw [hl, hm, hk] at hB
  clear hl hm hk
  cases ok with
  | false =>
    go_enter Tryd.func20, Tryd.ntmps20
    go_wp2_with (fail)
    refine (hB _).mono ?_
    clear hB
    rintro e w1 ⟨rfl, hb1⟩
    have bw1 : Below w.heap.size w w1 := Below.trans (((Below.refl _ _).alloc (Nat.le_refl _) _).alloc (by simp) _) (hb1.mono (by simp; omega))
    clear hb1
    go_wp2_with (fail)
    go_ret
    exact ⟨by simp [misB], (bw1.alloc bw1.size _).alloc (by have := bw1.size; simp; omega) _⟩
  | true =>
    go_enter Tryd.func20, Tryd.ntmps20
    go_wp2_with (fail)
    refine (hB _).mono ?_
    clear hB
    rintro e w1 ⟨rfl, hb1⟩
    have bw1 : Below w.heap.size w w1 := Below.trans (((Below.refl _ _).alloc (Nat.le_refl _) _).alloc (by simp) _) (hb1.mono (by simp; omega))
    have ix1 : Ib w1 w.heap.size x := by
      have := (Ib.new w x).below (w' := w1) (k := (w.alloc (.cells x.c 25)).heap.size) (Below.trans ((Below.refl _ _).alloc (Nat.le_refl _) _) (hb1.mono (by simp))) (by simp)
      exact this
    have hlt1 := ix1.lt
    obtain ⟨x0, x1, x2, x3, x4, x5, x6, x7, x8, x9, x10, x11, x12⟩ := ix1.cells
    clear hb1
    go_wp2_with (fail)
    refine (wint_calls _ _ _ _).mono ?_
    rintro e w2 ⟨rfl, hw2⟩
    clear x0 x1 x2 x3 x4 x5 x6 x7 x8 x9 x10 x11 x12
    have bw2 : Below w.heap.size w w2 := by rw [← hw2]; exact (bw1.alloc bw1.size _).alloc (by have := bw1.size; simp; omega) _
    have ix : Ib w2 w.heap.size x := by rw [← hw2]; exact ix1.below (((Below.refl w1.heap.size _).alloc (Nat.le_refl _) _).alloc (by simp) _) hlt1
    have il : Ib w2 w1.heap.size l := by rw [← hw2]; exact (Ib.new w1 l).below ((Below.refl (w1.heap.size + 1) _).alloc (by simp) _) (by omega)
    have im : Ib w2 (w1.heap.size + 1) m := by
      rw [← hw2]
      have := Ib.new (w1.alloc (.cells l.c 25)) m
      rw [World.size_alloc] at this
      exact this
    clear hw2 ix1 hlt1 bw1
    obtain ⟨x0, x1, x2, x3, x4, x5, x6, x7, x8, x9, x10, x11, x12⟩ := ix.cells
    obtain ⟨l0, l1, l2, l3, l4, l5, l6, l7, l8, l9, l10, l11, l12⟩ := il.cells
    obtain ⟨m0, m1, m2, m3, m4, m5, m6, m7, m8, m9, m10, m11, m12⟩ := im.cells
    cases c0 : wi x.L l.L m.L
    case false =>
      go_wp2_with (fail)
      go_ret
      exact ⟨by simp [misB, c0], bw2⟩
    go_wp2_with (fail)
    refine (wi64_calls _ _ _ _).mono ?_
    rintro e w2' ⟨rfl, rfl⟩
    cases c1 : wi x.S l.S m.S
    case false =>
      go_wp2_with (fail)
      go_ret
      exact ⟨by simp [misB, c0, c1], bw2⟩
    go_wp2_with (fail)
    refine (wint_calls _ _ _ _).mono ?_
    rintro e w2' ⟨rfl, rfl⟩
    cases c2 : wi x.A l.A m.A
    case false =>
      go_wp2_with (fail)
      go_ret
      exact ⟨by simp [misB, c0, c1, c2], bw2⟩
    go_wp2_with (fail)
    refine (wint_calls _ _ _ _).mono ?_
    rintro e w2' ⟨rfl, rfl⟩
    cases c3 : wi x.M l.M m.M
    case false =>
      go_wp2_with (fail)
      go_ret
      exact ⟨by simp [misB, c0, c1, c2, c3], bw2⟩
    go_wp2_with (fail)
    refine (heads_calls x l m _).mono ?_
    rintro e w3 ⟨rfl, hb3⟩
    have bw3 : Below w.heap.size w w3 := bw2.trans (hb3.mono bw2.size)
    replace ix := ix.below hb3 ix.lt
    replace il := il.below hb3 il.lt
    replace im := im.below hb3 im.lt
    clear hb3 bw2 x0 x1 x2 x3 x4 x5 x6 x7 x8 x9 x10 x11 x12 l0 l1 l2 l3 l4 l5 l6 l7 l8 l9 l10 l11 l12 m0 m1 m2 m3 m4 m5 m6 m7 m8 m9 m10 m11 m12
    obtain ⟨x0, x1, x2, x3, x4, x5, x6, x7, x8, x9, x10, x11, x12⟩ := ix.cells
    obtain ⟨l0, l1, l2, l3, l4, l5, l6, l7, l8, l9, l10, l11, l12⟩ := il.cells
    obtain ⟨m0, m1, m2, m3, m4, m5, m6, m7, m8, m9, m10, m11, m12⟩ := im.cells
    cases c4 : headsB x l m
    case false =>
      go_wp2_with (fail)
      go_ret
      exact ⟨by simp [misB, c0, c1, c2, c3, c4], bw3⟩
    go_wp2_with (fail)
    refine (wint_calls _ _ _ _).mono ?_
    rintro e w3' ⟨rfl, rfl⟩
    cases c5 : wi x.P l.P m.P
    case false =>
      go_wp2_with (fail)
      go_ret
      exact ⟨by simp [misB, c0, c1, c2, c3, c4, c5], bw3⟩
    go_wp2_with (fail)
    refine (wi64_calls _ _ _ _).mono ?_
    rintro e w3' ⟨rfl, rfl⟩
    cases c6 : wi x.T l.T m.T
    case false =>
      go_wp2_with (fail)
      go_ret
      exact ⟨by simp [misB, c0, c1, c2, c3, c4, c5, c6], bw3⟩
    go_wp2_with (fail)
    refine (wi64_calls _ _ _ _).mono ?_
    rintro e w3' ⟨rfl, rfl⟩
    cases c7 : wi x.C l.C m.C
    case false =>
      go_wp2_with (fail)
      go_ret
      exact ⟨by simp [misB, c0, c1, c2, c3, c4, c5, c6, c7], bw3⟩
    go_wp2_with (fail)
    go_ret
    exact ⟨by simp [misB, c0, c1, c2, c3, c4, c5, c6, c7], bw3⟩
theorem mis_calls (P I B : Int) (x : Ino) (w : World) : Calls Tryd.prog 20 #[x.v, gv P I B] w fun e w' => e = .returned (.int .i64 (misV x I B)) ∧ Below w.heap.size w w' :=
  mis_all P I B x _ _ _ w rfl rfl rfl
end Go.Proofs.YtppnicdhahgigaaDoor
