/- A table and an array of rows beside it. -/
import Derived.Test.YthlodfahajaneaaKt
set_option linter.unusedSimpArgs false
set_option linter.unusedVariables false
namespace Go.Proofs.Ythlodfahajaneaa
open Go Go.RowKit LockMath Go.Shelf
structure Ag (w u : World) (T G : Nat) (As : List (Option Addr × Nat)) (gW : Nat) (Bs : List (Option Addr × Nat)) (Q W : List (List Int)) : Prop where
  lk : Lk w u T G As 8 Q
  qm : Qm w u 43 3 gW Bs W
  dj : ∀ k, TF T G As k → ¬ QF gW Bs k
section
variable {w u u' : World} {T G gW i c m : Nat} {As As' Bs : List (Option Addr × Nat)} {Q Q' W : List (List Int)} {R : Option Addr} {xs : List Int}
theorem Ag.below (h : Ag w u T G As gW Bs Q W) (hb : Below u.heap.size u u') : Ag w u' T G As gW Bs Q W := ⟨h.lk.below hb, h.qm.below hb, h.dj⟩
theorem Ag.turn (h : Ag w u T G As gW Bs Q W) (h' : Lk w u' T G As' 8 Q') (t : Tn u u' T G As As') : Ag w u' T G As' gW Bs Q' W :=
  ⟨h', h.qm.stay fun k hk => t.only.block k (h.qm.ltF hk) fun hf => h.dj k hf hk, fun k hk hq => by
    rcases t.fr k hk with h1 | h1
    · exact h.dj k h1 hq
    · have := h.qm.ltF hq; omega⟩
/-- One row of the array. -/
theorem Ag.put (h : Ag w u T G As gW Bs Q W) (hi : i < W.length) (hO : IOwn u.heap.size u' R c xs) (hb : Below u.heap.size u u') (hm : m = xs.length) :
    Ag w (u'.setCell ⟨gW, i, none⟩ (.slice R m c)) T G As gW (Bs.set i (R, c)) Q (W.set i xs) := by
  have ho1 : OwnR u' 3 1 R m c (iv xs) := by rw [hm]; exact hO.1
  obtain ⟨h1, h2⟩ := h.qm.put2 hi hb hm h.lk.on.size ho1 hO.2
  have hk : ∀ k, TF T G As k → (u'.setCell ⟨gW, i, none⟩ (.slice R m c)).heap[k]? = u.heap[k]? := fun k hk => h2.only.block k (h.lk.tb.tg.ltF hk) (h.dj k hk)
  refine ⟨⟨?_, h.lk.on.trans (h2.only.below h.lk.on.size fun k hk => h.qm.hF hk)⟩, h1, fun k hk hq => ?_⟩
  · exact (h.lk.tb.tg.keep hk).tb rfl h.lk.tb.nm
  · rcases h2.fr k hq with h3 | h3
    · exact h.dj k hk h3
    · have := h.lk.tb.tg.ltF hk; omega
/-- An array without rows. -/
theorem Ag.start (h : Lk w u T G As 8 Q) {cs : Array Value} (he : cs = (List.replicate 12 (Value.slice none 0 0)).toArray) : Ag w (u.alloc (.cells cs 43)) T G As u.heap.size (List.replicate 12 (none, 0)) Q (List.replicate 12 []) := by
  subst he
  have hb : Below u.heap.size u (u.alloc (.cells (List.replicate 12 (Value.slice none 0 0)).toArray 43)) := (Below.refl _ _).alloc (Nat.le_refl _) _
  refine ⟨h.below hb, Qm.start (by decide) h.on.size (heap_alloc_new u _) fun i hi => ?_, fun k hk hq => ?_⟩
  · rw [List.getElem?_toArray, List.getElem?_replicate, if_pos hi]
  · have h1 := h.tb.tg.ltF hk
    rcases hq with rfl | ⟨j, ad, hA, rfl⟩
    · omega
    · unfold qA at hA
      rw [List.getD_eq_getElem?_getD, List.getElem?_replicate] at hA
      split at hA <;> cases hA
theorem Ag.cell (h : Ag w u T G As gW Bs Q W) (hi : i < W.length) : u.cell? ⟨gW, i, none⟩ = some (.slice (qA Bs i) (qu W i).length (qC Bs i)) := h.qm.cell hi
theorem Ag.row (h : Ag w u T G As gW Bs Q W) (hi : i < W.length) : Cel u (qA Bs i) (iv (qu W i)) := h.qm.row hi
end
theorem Sd.spot {u : World} {T G c k : Nat} {As : List (Option Addr × Nat)} {R : Option Addr} {xs : List Int} (h : Sd u T G As R c xs) (hk : k < xs.length) : ∃ g, R = some ⟨g, 0, none⟩ ∧ u.cell? ⟨g, k, none⟩ = some (.int .i64 (xs.getD k 0)) :=
  IOwn.spot (B := 0) ⟨h.own, fun _ _ => Nat.zero_le _⟩ hk
/-- A row of ints, wherever it lies. -/
def RowAt (q : List Int) (x : Value) (u : World) : Prop := ∃ R c, x = .slice R q.length c ∧ Cel u R (iv q)
theorem RowAt.below {q : List Int} {x : Value} {u u' : World} (h : RowAt q x u) (hb : Below u.heap.size u u') : RowAt q x u' := by
  obtain ⟨R, c, e, hc⟩ := h
  exact ⟨R, c, e, hc.below hb⟩
/-- A region in which operation s leaves such a row, and what K says stays. -/
def RowS (K : World → Prop) (q : List Int) (s : Nat) (L : Nat → Bool) (x _y : Value) (u : World) : Prop := K u ∧ (L s = true → RowAt q x u)
theorem RowS.start {K : World → Prop} {q : List Int} {s : Nat} {x y : Value} {u : World} (h : K u) : RowS K q s (fun _ => false) x y u := ⟨h, fun h => (by cases h)⟩
theorem RowS.keep {K : World → Prop} {q : List Int} {s j : Nat} {L : Nat → Bool} {x y y' : Value} {u u' : World} (h : RowS K q s L x y u) (hj : j ≠ s) (hK : K u') (hb : Below u.heap.size u u') : RowS K q s (setL L j) x y' u' :=
  ⟨hK, fun hL => (h.2 (by rwa [setLne hj] at hL)).below hb⟩
theorem RowS.turn {K : World → Prop} {q : List Int} {s : Nat} {L : Nat → Bool} {x y : Value} {u : World} (hK : K u) (hr : RowAt q x u) : RowS K q s (setL L s) x y u := ⟨hK, fun _ => hr⟩
end Go.Proofs.Ythlodfahajaneaa
