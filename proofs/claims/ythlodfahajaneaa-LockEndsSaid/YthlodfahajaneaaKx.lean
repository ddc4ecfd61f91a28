/- A table and two arrays of rows beside it; the tale of each lock; who is freed next. -/
import Derived.Test.YthlodfahajaneaaKv
set_option linter.unusedSimpArgs false
set_option linter.unusedVariables false
namespace Go.Proofs.Ythlodfahajaneaa
open Go Go.RowKit LockMath Go.Shelf
structure Eg (w u : World) (T G : Nat) (As : List (Option Addr × Nat)) (gO : Nat) (Bo : List (Option Addr × Nat)) (gK : Nat) (Bk : List (Option Addr × Nat)) (Q O K : List (List Int)) : Prop where
  lk : Lk w u T G As 8 Q
  qo : Qm w u 43 3 gO Bo O
  qk : Qm w u 43 3 gK Bk K
  d1 : ∀ k, TF T G As k → ¬ QF gO Bo k
  d2 : ∀ k, TF T G As k → ¬ QF gK Bk k
  d3 : ∀ k, QF gO Bo k → ¬ QF gK Bk k
section
variable {w u u' w1 : World} {T G gO gK i c m : Nat} {As As' Bo Bk : List (Option Addr × Nat)} {Q Q' O K : List (List Int)} {R : Option Addr} {xs : List Int}
theorem Eg.below (h : Eg w u T G As gO Bo gK Bk Q O K) (hb : Below u.heap.size u u') : Eg w u' T G As gO Bo gK Bk Q O K := ⟨h.lk.below hb, h.qo.below hb, h.qk.below hb, h.d1, h.d2, h.d3⟩
theorem Eg.turn (h : Eg w u T G As gO Bo gK Bk Q O K) (h' : Lk w u' T G As' 8 Q') (t : Tn u u' T G As As') : Eg w u' T G As' gO Bo gK Bk Q' O K :=
  ⟨h', h.qo.stay fun k hk => t.only.block k (h.qo.ltF hk) fun hf => h.d1 k hf hk, h.qk.stay fun k hk => t.only.block k (h.qk.ltF hk) fun hf => h.d2 k hf hk,
   fun k hk hq => by
    rcases t.fr k hk with h1 | h1
    · exact h.d1 k h1 hq
    · have := h.qo.ltF hq; omega, fun k hk hq => by
    rcases t.fr k hk with h1 | h1
    · exact h.d2 k h1 hq
    · have := h.qk.ltF hq; omega, h.d3⟩
/-- One row of the first array. -/
theorem Eg.put (h : Eg w u T G As gO Bo gK Bk Q O K) (hi : i < O.length) (hO : IOwn u.heap.size u' R c xs) (hb : Below u.heap.size u u') (hm : m = xs.length) :
    Eg w (u'.setCell ⟨gO, i, none⟩ (.slice R m c)) T G As gO (Bo.set i (R, c)) gK Bk Q (O.set i xs) K := by
  have ho1 : OwnR u' 3 1 R m c (iv xs) := by rw [hm]; exact hO.1
  obtain ⟨h1, h2⟩ := h.qo.put2 hi hb hm h.lk.on.size ho1 hO.2
  have hk : ∀ k, TF T G As k → (u'.setCell ⟨gO, i, none⟩ (.slice R m c)).heap[k]? = u.heap[k]? := fun k hk => h2.only.block k (h.lk.tb.tg.ltF hk) (h.d1 k hk)
  refine ⟨⟨(h.lk.tb.tg.keep hk).tb rfl h.lk.tb.nm, h.lk.on.trans (h2.only.below h.lk.on.size fun k hk => h.qo.hF hk)⟩, h1, h.qk.stay fun k hk => h2.only.block k (h.qk.ltF hk) fun hf => h.d3 k hf hk, fun k hk hq => ?_, h.d2, fun k hk hq => ?_⟩
  · rcases h2.fr k hq with h3 | h3
    · exact h.d1 k hk h3
    · have := h.lk.tb.tg.ltF hk; omega
  · rcases h2.fr k hk with h3 | h3
    · exact h.d3 k h3 hq
    · have := h.qk.ltF hq; omega
/-- The second array's row grows. -/
theorem Eg.grow (h : Eg w u T G As gO Bo gK Bk Q O K) (hi : i < K.length) {g c L : Nat} {p : Int} (hL : (qu K i).length = L) (ho : OwnR w1 3 1 (some ⟨g, 0, none⟩) (L + 1) c (iv (qu K i) ++ iv [p]))
    (hg : u.grownBy w1 ((qA Bk i).map (·.block))) (hE : qA Bk i = some ⟨g, 0, none⟩ ∨ g = u.heap.size) :
    Eg w (w1.setCell ⟨gK, i, none⟩ (.slice (some ⟨g, 0, none⟩) (L + 1) c)) T G As gO Bo gK (Bk.set i (some ⟨g, 0, none⟩, c)) Q O (K.set i (qu K i ++ [p])) := by
  obtain ⟨h1, h2⟩ := h.qk.grow2 hi h.lk.on.size hL ho hg hE
  have hk : ∀ k, TF T G As k → (w1.setCell ⟨gK, i, none⟩ (.slice (some ⟨g, 0, none⟩) (L + 1) c)).heap[k]? = u.heap[k]? := fun k hk => h2.only.block k (h.lk.tb.tg.ltF hk) (h.d2 k hk)
  refine ⟨⟨(h.lk.tb.tg.keep hk).tb rfl h.lk.tb.nm, h.lk.on.trans (h2.only.below h.lk.on.size fun k hk => h.qk.hF hk)⟩, h.qo.stay fun k hk => h2.only.block k (h.qo.ltF hk) (h.d3 k hk), h1, h.d1, fun k hk hq => ?_, fun k hk hq => ?_⟩
  · rcases h2.fr k hq with h3 | h3
    · exact h.d2 k hk h3
    · have := h.lk.tb.tg.ltF hk; omega
  · rcases h2.fr k hq with h3 | h3
    · exact h.d3 k hk h3
    · have := h.qo.ltF hk; omega
/-- Arrays without rows. -/
theorem no_rows {g k n : Nat} (h : QF g (List.replicate n ((none, 0) : Option Addr × Nat)) k) : k = g := by
  rcases h with h | ⟨j, ad, hA, _⟩
  · exact h
  · unfold qA at hA
    rw [List.getD_eq_getElem?_getD, List.getElem?_replicate] at hA
    split at hA <;> cases hA
theorem Eg.start (h : Lk w u T G As 8 Q) {cs cs' : Array Value} (he : cs = (List.replicate 12 (Value.slice none 0 0)).toArray) (he' : cs' = (List.replicate 12 (Value.slice none 0 0)).toArray) :
    Eg w ((u.alloc (.cells cs 43)).alloc (.cells cs' 43)) T G As u.heap.size (List.replicate 12 (none, 0)) (u.alloc (.cells cs 43)).heap.size (List.replicate 12 (none, 0)) Q (List.replicate 12 []) (List.replicate 12 []) := by
  have a1 := Ag.start h he
  have a2 := Ag.start a1.lk he'
  have hb : Below (u.alloc (.cells cs 43)).heap.size (u.alloc (.cells cs 43)) ((u.alloc (.cells cs 43)).alloc (.cells cs' 43)) := (Below.refl _ _).alloc (Nat.le_refl _) _
  refine ⟨a2.lk, a1.qm.below hb, a2.qm, a1.dj, a2.dj, fun k hk hq => ?_⟩
  have e1 := no_rows hk
  have e2 := no_rows hq
  rw [e1] at e2
  simp at e2
end
/-! ### tales -/
/-- A lock's tale goes on; it was told who holds it. -/
def TU (Q0 Q K : List (List Int)) (j : Nat) : Prop := ∃ d, Tale (qu Q0 j) d (qu Q j) (qu K j)
def TD (Q0 Q K : List (List Int)) (j : Nat) : Prop := ∃ d, Tale (qu Q0 j) d (qu Q j) (d ++ (qu Q j).take 1) ∧ qu K j = d ++ (qu Q j).take 1
theorem TU.tell {Q0 Q K K' : List (List Int)} {j : Nat} (h : TU Q0 Q K j) (he : qu K' j = LockMath.tell (qu K j) (qu Q j)) : TD Q0 Q K' j := by
  obtain ⟨d, hd⟩ := h
  exact ⟨d, ⟨hd.all, hd.once, .inr rfl⟩, he.trans hd.tell⟩
theorem TD.free {Q0 Q K : List (List Int)} {j : Nat} {p : Int} (h : TD Q0 Q K j) (hw : ¬ Wait Q p j) : TU Q0 (freeQ Q p) K j := by
  obtain ⟨d, hd, he⟩ := h
  obtain ⟨d', h'⟩ := hd.free hw
  refine ⟨d', ?_⟩
  rw [qu_free, he]
  exact h'
theorem TU.len {Q0 Q K : List (List Int)} {j : Nat} (h : TU Q0 Q K j) : (qu K j).length ≤ (qu Q0 j).length := by
  obtain ⟨d, hd⟩ := h
  have h1 := hd.all
  rw [h1, List.length_append]
  rcases hd.told with e | e
  · rw [e]; omega
  · rw [e, List.length_append, List.length_take]; omega
theorem TD.done {Q0 Q K : List (List Int)} {j : Nat} (h : TD Q0 Q K j) (he : qu Q j = []) : qu K j = qu Q0 j := by
  obtain ⟨d, hd, hk⟩ := h
  rw [he] at hd hk
  rw [hk]
  exact hd.done
/-- It may be freed next. -/
def okF (Q : List (List Int)) (p : Int) : Bool := !(waitsF Q p).isSome && decide (0 < (holdsL Q p).length)
theorem okF_iff {Q : List (List Int)} {p : Int} : okF Q p = true ↔ (∀ i, ¬ Wait Q p i) ∧ ∃ i, Hold Q p i := by
  unfold okF
  rw [Bool.and_eq_true, decide_eq_true_eq, ← waits_none]
  constructor
  · rintro ⟨h1, h2⟩
    refine ⟨?_, ?_⟩
    · cases hc : waitsF Q p with
      | none => rfl
      | some j => rw [hc] at h1; cases h1
    · exact ⟨(holdsL Q p)[0], mem_holds.1 (List.getElem_mem h2)⟩
  · rintro ⟨h1, i, h2⟩
    exact ⟨by rw [h1]; rfl, List.length_pos_of_mem (mem_holds.2 h2)⟩
/-- If none may, nobody is left. -/
theorem none_left {Q : List (List Int)} (hn : Nm 8 Q) (h : ∀ p : Nat, p < 8 → okF Q (p : Int) = false) (j : Nat) : qu Q j = [] := by
  cases hq : qu Q j with
  | nil => rfl
  | cons a r =>
    exfalso
    obtain ⟨x, i, h1, h2⟩ := hn.inv.moves (i := j) (by rw [hq]; simp)
    have hr := hn.rng i x (mem_or.2 (.inl h1))
    obtain ⟨y, rfl⟩ := Int.eq_ofNat_of_zero_le hr.1
    have := h y (by omega)
    rw [okF_iff.2 ⟨h2, i, h1⟩] at this
    cases this
theorem okF_there {Q : List (List Int)} {p : Int} (h : okF Q p = true) : There Q p := by
  obtain ⟨_, i, h2⟩ := okF_iff.1 h
  exact ⟨i, h2.lt, mem_or.2 (.inl h2)⟩
end Go.Proofs.Ythlodfahajaneaa
