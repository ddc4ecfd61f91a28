/- A table along a law; rows beside it; the chapter's examples. -/
import Derived.Test.YthlodfahajaneaaKl
set_option linter.unusedSimpArgs false
set_option linter.unusedVariables false
namespace Go.Proofs.Ythlodfahajaneaa
open Go Go.RowKit LockMath Go.Shelf
/-- A table of the call's own. -/
structure Lk (w u : World) (T G : Nat) (As : List (Option Addr × Nat)) (n : Int) (Q : List (List Int)) : Prop where
  tb : Tb w u T G As n Q
  on : Below w.heap.size w u
/-- A row of ints beside it. -/
structure Sd (u : World) (T G : Nat) (As : List (Option Addr × Nat)) (R : Option Addr) (c : Nat) (xs : List Int) : Prop where
  own : OwnR u 3 1 R xs.length c (iv xs)
  ap : ∀ ad, R = some ad → ¬ TF T G As ad.block
section
variable {w u u' : World} {T G : Nat} {As As' : List (Option Addr × Nat)} {n : Int} {Q Q' : List (List Int)} {R : Option Addr} {c : Nat} {xs : List Int}
theorem Lk.below (h : Lk w u T G As n Q) (hb : Below u.heap.size u u') : Lk w u' T G As n Q := ⟨h.tb.below hb, h.on.trans (hb.mono h.on.size)⟩
theorem Lk.turn (h : Lk w u T G As n Q) (h' : Tb w u' T G As' n Q') (t : Tn u u' T G As As') : Lk w u' T G As' n Q' := ⟨h', t.below h.tb.tg h.on⟩
theorem Sd.below (h : Sd u T G As R c xs) (hb : Below u.heap.size u u') : Sd u' T G As R c xs := ⟨h.own.keep fun ad e => hb.block _ (h.own.lt ad e), h.ap⟩
theorem Sd.turn (h : Sd u T G As R c xs) (t : Tn u u' T G As As') : Sd u' T G As' R c xs :=
  ⟨h.own.keep fun ad e => t.only.block _ (h.own.lt ad e) (h.ap ad e), fun ad e hf => by
    rcases t.fr _ hf with h1 | h1
    · exact h.ap ad e h1
    · have := h.own.lt ad e; omega⟩
theorem Sd.new {tt : TypeId} {X : Array Value} (h : Tg w u tt X T G As Q) (ho : IOwn u.heap.size u' R c xs) : Sd u' T G As R c xs :=
  ⟨ho.1, fun ad e hf => by
    have h1 := h.ltF hf
    have h2 := ho.2 ad e
    omega⟩
theorem Sd.cel (h : Sd u T G As R c xs) : Cel u R (iv xs) := h.own.cel
/-- What a call that turns it leaves. -/
def TurnP (w u : World) (T G : Nat) (As : List (Option Addr × Nat)) (n : Int) (v : Value) (Q' : List (List Int)) (e : Ending) (u' : World) : Prop := e = .returned v ∧ ∃ As', Lk w u' T G As' n Q' ∧ Tn u u' T G As As'
theorem Lk.want (h : Lk w u T G As n Q) (p id : Int) {b : Bool} {er : Int} (e1 : wantB Q n p id = b) (e2 : wantE Q n p id = er) (e3 : wantQ Q n p id = Q') :
    Calls Try.prog 13 #[.pointer (some ⟨T, 0, none⟩), .int .i64 p, .int .i64 id] u (TurnP w u T G As n (.tuple #[.bool b, .int .i64 er]) Q') := by
  subst e1 e2 e3
  refine (want_calls h.tb h.on.size p id).mono ?_
  rintro e u' ⟨rfl, As', h1, h2⟩
  exact ⟨rfl, As', h.turn h1 h2, h2⟩
theorem Lk.free (h : Lk w u T G As n Q) (p : Int) {er : Int} (e2 : freeE n p = er) (e3 : freeQ' Q n p = Q') :
    Calls Try.prog 11 #[.pointer (some ⟨T, 0, none⟩), .int .i64 p] u (TurnP w u T G As n (.int .i64 er) Q') := by
  subst e2 e3
  refine (free_calls h.tb h.on.size p).mono ?_
  rintro e u' ⟨rfl, As', h1, h2⟩
  exact ⟨rfl, As', h.turn h1 h2, h2⟩
end
theorem lit_cel {u : World} {l : List Int} {cs : Array Value} {t : TypeId} (e : cs = (iv l).toArray) : Cel (u.alloc (.cells cs t)) (some ⟨u.heap.size, 0, none⟩) (iv l) := fun _ => by
  subst e
  refine ⟨_, rfl, by simp, fun j v hj => ?_⟩
  rw [add_zero_block, cell_of_row _ u.heap.size j _ _ _ (heap_alloc_new u _), List.getElem?_toArray]
  exact hj
set_option maxRecDepth 100000 in
theorem alive_calls (w : World) : Calls Try.prog 8 #[] w fun e w' => e = .returned (.bool true) ∧ Below w.heap.size w w' := by
  go_enter Try.func8, Try.ntmps8
  go_wp2_with (fail)
  refine (new_calls 4 3 w (by decide)).mono ?_
  rintro e w1 ⟨T, G, rfl, h1, hb1⟩
  obtain ⟨A1, hA1⟩ : ∃ A1, A1 = List.replicate 4 ((none, 0) : Option Addr × Nat) := ⟨_, rfl⟩
  rw [← hA1] at h1
  have h1 : Hid (Lk w w1 T G A1 3 (List.replicate 4 [])) := ⟨h1, hb1⟩
  clear hA1 hb1
  go_wp2_with (fail)
  refine (h1.out.want 0 1 (b := true) (er := 0) (Q' := [[], [0], [], []]) (by decide) (by decide) (by decide)).mono ?_
  rintro e w2 ⟨rfl, A2, h2, _⟩
  replace h2 := Lib.hid h2
  clear h1
  go_wp2_with (fail)
  refine (h2.out.want 1 0 (b := true) (er := 0) (Q' := [[1], [0], [], []]) (by decide) (by decide) (by decide)).mono ?_
  rintro e w3 ⟨rfl, A3, h3, _⟩
  replace h3 := Lib.hid h3
  clear h2
  go_wp2_with (fail)
  refine (h3.out.want 1 1 (b := false) (er := 0) (Q' := [[1], [0, 1], [], []]) (by decide) (by decide) (by decide)).mono ?_
  rintro e w4 ⟨rfl, A4, h4, _⟩
  replace h4 := Lib.hid h4
  clear h3
  go_wp2_with (fail)
  refine (h4.out.want 0 0 (b := false) (er := 6) (Q' := [[1], [0, 1], [], []]) (by decide) (by decide) (by decide)).mono ?_
  rintro e w5 ⟨rfl, A5, h5, _⟩
  replace h5 := Lib.hid h5
  clear h4
  go_wp2_with (fail)
  refine (queue_calls h5.out.tb 1).mono ?_
  rintro e w6 ⟨R, c, rfl, hO, hb6⟩
  have hs6 : Hid (Sd w6 T G A5 R c [0, 1]) := Sd.new h5.out.tb.tg hO
  have h6 := Lib.hid (h5.out.below hb6)
  clear h5 hO hb6
  rw [show (queueL [[1], [0, 1], [], []] 1).length = 2 by decide]
  go_wp2_with (fail)
  refine (waits_calls h6.out.tb 1).mono ?_
  rintro e w' ⟨rfl, rfl⟩
  rw [show twoN (waitsF [[1], [0, 1], [], []] 1) = .tuple #[.int .i64 1, .bool true] from rfl]
  go_wp2_with (fail)
  refine (h6.out.want 1 2 (b := false) (er := 6) (Q' := [[1], [0, 1], [], []]) (by decide) (by decide) (by decide)).mono ?_
  rintro e w7 ⟨rfl, A7, h7, t7⟩
  have hs7 := Lib.hid (hs6.out.turn t7)
  replace h7 := Lib.hid h7
  clear h6 hs6 t7
  go_wp2_with (fail)
  refine (h7.out.free 0 (er := 0) (Q' := [[1], [1], [], []]) (by decide) (by decide)).mono ?_
  rintro e w8 ⟨rfl, A8, h8, t8⟩
  have hs8 := Lib.hid (hs7.out.turn t8)
  replace h8 := Lib.hid h8
  clear h7 hs7 t8
  go_wp2_with (fail)
  refine (h8.out.want 1 2 (b := true) (er := 0) (Q' := [[1], [1], [1], []]) (by decide) (by decide) (by decide)).mono ?_
  rintro e w9 ⟨rfl, A9, h9, t9⟩
  have hs9 := Lib.hid (hs8.out.turn t9)
  replace h9 := Lib.hid h9
  clear h8 hs8 t9
  go_wp2_with (fail)
  refine (holder_calls h9.out.tb 1).mono ?_
  rintro e w' ⟨rfl, rfl⟩
  rw [show two (headO [[1], [1], [1], []] 1) = .tuple #[.int .i64 1, .bool true] from rfl]
  go_wp2_with (fail)
  have hbl : Below w9.heap.size w9 (w9.alloc (.cells #[.int .i64 0, .int .i64 1] 3)) := (Below.refl _ _).alloc (Nat.le_refl _) _
  have hc1 := (hs9.out.below hbl).cel
  have h10 := Lib.hid (h9.out.below hbl)
  refine (isame_calls R _ [0, 1] c 2 _ hc1 (lit_cel rfl) (by decide)).mono ?_
  clear hc1 hs9 h9 hbl
  generalize w9.alloc (.cells #[.int .i64 0, .int .i64 1] 3) = V at *
  rintro e w' ⟨rfl, q, rfl⟩
  replace h10 := Lib.hid (h10.out.below (below_drewN (Below.refl _ _) q))
  generalize V.drewN q = V2 at *
  go_wp2_with (fail)
  refine (holds_calls h10.out.tb 1).mono ?_
  rw [show ni (holdsL [[1], [1], [1], []] 1) = [0, 1, 2] by decide]
  rintro e w11 ⟨R2, c2, rfl, hO, hb11⟩
  replace hO := Lib.hid hO
  have hon := Lib.hid (h10.out.on.trans (hb11.mono h10.out.on.size))
  clear h10 hb11
  go_wp2_with (fail)
  have hbl : Below w11.heap.size w11 (w11.alloc (.cells #[.int .i64 0, .int .i64 1, .int .i64 2] 3)) := (Below.refl _ _).alloc (Nat.le_refl _) _
  have hon2 := Lib.hid (hon.out.trans (hbl.mono hon.out.size))
  refine (isame_calls R2 _ [0, 1, 2] c2 3 _ (hO.out.below hbl).cel (lit_cel rfl) (by decide)).mono ?_
  clear hO hon hbl
  generalize w11.alloc (.cells #[.int .i64 0, .int .i64 1, .int .i64 2] 3) = V3 at *
  rintro e w' ⟨rfl, q, rfl⟩
  replace hon2 := Lib.hid (below_drewN hon2.out q)
  go_wp2_with (fail)
  go_ret
  exact ⟨rfl, hon2.out⟩
end Go.Proofs.Ythlodfahajaneaa
