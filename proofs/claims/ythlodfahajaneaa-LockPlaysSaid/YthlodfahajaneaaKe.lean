/- A table's block and its queues: what stays, what turns, as one queue is another. -/
import Derived.Test.YthlodfahajaneaaKd
set_option linter.unusedSimpArgs false
set_option linter.unusedVariables false
namespace Go.Proofs.Ythlodfahajaneaa
open Go Go.RowKit LockMath
/-- All blocks of a table. -/
def TF (T G : Nat) (As : List (Option Addr × Nat)) (k : Nat) : Prop := k = T ∨ QF G As k
/-- What a call on a table turns: its blocks alone; those that it has behind it are its own, or new. -/
structure Tn (w w' : World) (T G : Nat) (As As' : List (Option Addr × Nat)) : Prop where
  only : Only (TF T G As) w w'
  fr : ∀ k, TF T G As' k → TF T G As k ∨ w.heap.size ≤ k
/-- A block of a table, whatever it holds beside its queues. -/
structure Tg (w0 w : World) (tt : TypeId) (X : Array Value) (T G : Nat) (As : List (Option Addr × Nat)) (Q : List (List Int)) : Prop where
  blk : w.heap[T]? = some (.cells X tt (0, 0))
  q : Qm w0 w 40 3 G As Q
  hT : w0.heap.size ≤ T
  n1 : tt ≠ 40
  n2 : tt ≠ 3
section
variable {w0 w w1 u : World} {tt : TypeId} {X : Array Value} {T G i : Nat} {As As' As'' : List (Option Addr × Nat)} {n : Int} {Q Q' : List (List Int)}
theorem Tn.of_below (h : Below w.heap.size w w1) : Tn w w1 T G As As := ⟨Only.of_below _ h, fun k h => .inl h⟩
theorem Tn.refl : Tn w w T G As As := Tn.of_below (Below.refl _ _)
theorem Tn.trans (h : Tn w u T G As As') (k : Tn u w1 T G As' As'') : Tn w w1 T G As As'' :=
  ⟨h.only.trans k.only h.fr, fun i hi => by
    rcases k.fr i hi with h1 | h1
    · exact h.fr i h1
    · exact .inr (Nat.le_trans h.only.size h1)⟩
theorem qA_none (hi : As.length ≤ i) : qA As i = none := by
  unfold qA
  rw [List.getD_eq_getElem?_getD, List.getElem?_eq_none hi]; rfl
theorem Qm.isome {ts te : TypeId} (h : Qm w0 w ts te G As Q) {ad : Addr} (hA : qA As i = some ad) : i < Q.length := by
  rcases Nat.lt_or_ge i Q.length with h1 | h1
  · exact h1
  · rw [qA_none (by rw [h.al]; exact h1)] at hA; cases hA
theorem Qm.frozen1 {ts te : TypeId} (h : Qm w0 u ts te G As Q) (hi : i < Q.length) (hg : u.grownBy w1 ((qA As i).map (·.block))) (k : Nat) : w1.frozen? ⟨G, k, none⟩ = false := by
  obtain ⟨cur, hk, _⟩ := h.blk
  have e : w1.heap[G]? = some (.cells cur ts (0, 0)) := (hg.block G h.ltG (fun e => by
    cases hA : qA As i with
    | none => rw [hA] at e; cases e
    | some ad =>
      rw [hA] at e
      injection e with e
      exact h.neG hi hA e.symm)).trans hk
  simp [World.frozen?, e]
theorem Qm.cell1 {ts te : TypeId} (h : Qm w0 u ts te G As Q) (hi : i < Q.length) (hg : u.grownBy w1 ((qA As i).map (·.block))) {A : Option Addr} {L C : Nat} (hA : qA As i = A) (hL : (qu Q i).length = L) (hC : qC As i = C) : w1.cell? ⟨G, i, none⟩ = some (.slice A L C) := by
  subst hA hL hC
  refine Eq.trans (World.cell?_of_block (hg.block G h.ltG (fun e => ?_))) (h.cell hi)
  cases hA : qA As i with
  | none => rw [hA] at e; cases e
  | some ad =>
    rw [hA] at e
    injection e with e
    exact h.neG hi hA e.symm
theorem Tg.hF (h : Tg w0 w tt X T G As Q) {k : Nat} (hk : TF T G As k) : w0.heap.size ≤ k := by
  rcases hk with rfl | rfl | ⟨i, ad, hA, rfl⟩
  · exact h.hT
  · exact h.q.hG
  · exact h.q.hi i (h.q.isome hA) ad hA
theorem Tg.ltT (h : Tg w0 w tt X T G As Q) : T < w.heap.size := lt_of_cells h.blk
theorem Tg.ltF (h : Tg w0 w tt X T G As Q) {k : Nat} (hk : TF T G As k) : k < w.heap.size := by
  rcases hk with rfl | rfl | ⟨i, ad, hA, rfl⟩
  · exact h.ltT
  · exact h.q.ltG
  · exact h.q.lt (h.q.isome hA) hA
theorem Tg.below (h : Tg w0 w tt X T G As Q) (hb : Below w.heap.size w w1) : Tg w0 w1 tt X T G As Q :=
  ⟨(hb.block _ h.ltT).trans h.blk, h.q.below hb, h.hT, h.n1, h.n2⟩
/-- Nothing of it has turned. -/
theorem Tg.keep (h : Tg w0 w tt X T G As Q) (hk : ∀ k, TF T G As k → w1.heap[k]? = w.heap[k]?) : Tg w0 w1 tt X T G As Q :=
  ⟨(hk T (.inl rfl)).trans h.blk, h.q.keep (hk G (.inr (.inl rfl))) fun i hi ad hA => hk _ (.inr (.inr ⟨i, ad, hA, rfl⟩)), h.hT, h.n1, h.n2⟩
theorem Tn.below (h : Tg w0 w tt X T G As Q) (t : Tn w w1 T G As As') (hb : Below w0.heap.size w0 w) : Below w0.heap.size w0 w1 :=
  hb.trans (t.only.below hb.size fun i hi => h.hF hi)
theorem Tg.neTG (h : Tg w0 w tt X T G As Q) : T ≠ G := by
  obtain ⟨cur, hg, _⟩ := h.q.blk
  exact cells_type h.blk hg h.n1
theorem Tg.neTA (h : Tg w0 w tt X T G As Q) {ad : Addr} (hA : qA As i = some ad) : ad.block ≠ T := by
  obtain ⟨cur, hg⟩ := own_block (h.q.own i (h.q.isome hA)) hA
  exact cells_type hg h.blk (Ne.symm h.n2)
theorem qA_set {x : Option Addr × Nat} {j : Nat} (hi : i < As.length) : qA (As.set i x) j = if i = j then x.1 else qA As j := by
  unfold qA
  rw [q_set As i j x hi]
  split <;> rfl
/-- One comes to stand in a queue. -/
theorem Tg.grow (h : Tg w0 u tt X T G As Q) (hi : i < Q.length) (hw : w0.heap.size ≤ u.heap.size) {g c L : Nat} {p : Int} (hL : (qu Q i).length = L) (ho : OwnR w1 3 1 (some ⟨g, 0, none⟩) (L + 1) c (iv (qu Q i) ++ [.int .i64 p]))
    (hg : u.grownBy w1 ((qA As i).map (·.block))) (hE : qA As i = some ⟨g, 0, none⟩ ∨ g = u.heap.size) :
    Tg w0 (w1.setCell ⟨G, i, none⟩ (.slice (some ⟨g, 0, none⟩) (L + 1) c)) tt X T G (As.set i (some ⟨g, 0, none⟩, c)) (Q.set i (qu Q i ++ [p])) ∧ Tn u (w1.setCell ⟨G, i, none⟩ (.slice (some ⟨g, 0, none⟩) (L + 1) c)) T G As (As.set i (some ⟨g, 0, none⟩, c)) := by
  subst hL
  refine ⟨⟨?_, h.q.grow hi hw ho hg hE, h.hT, h.n1, h.n2⟩, ?_, fun k hk => ?_⟩
  · refine (Below.heap_setCell _ _ _ _ h.neTG).trans ((hg.block T h.ltT fun e => ?_).trans h.blk)
    cases hA : qA As i with
    | none => rw [hA] at e; cases e
    | some ad =>
      rw [hA] at e
      injection e with e
      exact h.neTA hA e.symm
  · refine Only.setCell (((Only.refl _ u).grown hg fun k hk => ?_)) (.inl (.inr (.inl rfl))) _
    cases hA : qA As i with
    | none => rw [hA] at hk; cases hk
    | some ad =>
      rw [hA] at hk
      injection hk with hk
      exact .inl (.inr (.inr ⟨i, ad, hA, hk.symm⟩))
  · rcases hk with rfl | rfl | ⟨j, ad, hA, rfl⟩
    · exact .inl (.inl rfl)
    · exact .inl (.inr (.inl rfl))
    · rw [qA_set (by rw [h.q.al]; exact hi)] at hA
      split at hA
      · injection hA with hA
        subst hA
        rcases hE with hE | hE
        · exact .inl (.inr (.inr ⟨i, _, hE, rfl⟩))
        · exact .inr (by simp only; omega)
      · exact .inl (.inr (.inr ⟨j, ad, hA, rfl⟩))
/-- A queue is another row. -/
theorem Tg.put (h : Tg w0 u tt X T G As Q) (hi : i < Q.length) {F : Nat → Prop} (hu : Only F u w1) (hF : ∀ k, F k → ∃ ad, qA As i = some ad ∧ k = ad.block) {A : Option Addr} {m c : Nat} {l : List Int} (hm : m = l.length) (hw : w0.heap.size ≤ u.heap.size)
    (ho : OwnR w1 3 1 A m c (iv l)) (hA : A = qA As i ∨ ∀ ad, A = some ad → u.heap.size ≤ ad.block) :
    Tg w0 (w1.setCell ⟨G, i, none⟩ (.slice A m c)) tt X T G (As.set i (A, c)) (Q.set i l) ∧ Tn u (w1.setCell ⟨G, i, none⟩ (.slice A m c)) T G As (As.set i (A, c)) := by
  refine ⟨⟨?_, h.q.put hi hm ?_ ho ?_ ?_, h.hT, h.n1, h.n2⟩, ?_, fun k hk => ?_⟩
  · refine (Below.heap_setCell _ _ _ _ h.neTG).trans ((hu.block T h.ltT fun hf => ?_).trans h.blk)
    obtain ⟨ad, hA, e⟩ := hF T hf
    exact h.neTA hA e.symm
  · refine hu.block G h.q.ltG fun hf => ?_
    obtain ⟨ad, hA, e⟩ := hF G hf
    exact h.q.neG hi hA e.symm
  · intro ad e
    rcases hA with hA | hA
    · exact h.q.hi i hi ad (hA.symm.trans e)
    · exact Nat.le_trans hw (hA ad e)
  · intro j hj hji b hb
    refine ⟨hu.block _ (h.q.lt hj hb) fun hf => ?_, fun a e => ?_⟩
    · obtain ⟨ad, hA, e⟩ := hF _ hf
      exact h.q.ap j i hj hi hji b ad hb hA e
    · rcases hA with hA | hA
      · exact fun e2 => h.q.ap j i hj hi hji b a hb (hA.symm.trans e) e2.symm
      · have := hA a e
        have := h.q.lt hj hb
        omega
  · refine Only.setCell ⟨hu.os, hu.tape, hu.output, hu.size, fun k hk hn => hu.block k hk fun hf => ?_⟩ (.inl (.inr (.inl rfl))) _
    obtain ⟨ad, hA, e⟩ := hF k hf
    exact hn (.inr (.inr ⟨i, ad, hA, e⟩))
  · rcases hk with rfl | rfl | ⟨j, ad, hB, rfl⟩
    · exact .inl (.inl rfl)
    · exact .inl (.inr (.inl rfl))
    · rw [qA_set (by rw [h.q.al]; exact hi)] at hB
      split at hB
      · rcases hA with hA | hA
        · exact .inl (.inr (.inr ⟨i, ad, hA.symm.trans hB, rfl⟩))
        · exact .inr (hA ad hB)
      · exact .inl (.inr (.inr ⟨j, ad, hB, rfl⟩))
theorem Tb.tg (h : Tb w0 w T G As n Q) : Tg w0 w 49 #[.int .i64 n, .slice (some ⟨G, 0, none⟩) Q.length Q.length] T G As Q := ⟨h.blk, h.q, h.hT, by decide, by decide⟩
theorem Tg.tb {m : Nat} (h : Tg w0 w 49 #[.int .i64 n, .slice (some ⟨G, 0, none⟩) m m] T G As Q) (hm : Q.length = m) (hn : Nm n Q) : Tb w0 w T G As n Q := by
  subst hm
  exact ⟨h.blk, h.q, h.hT, hn⟩
/-- The document's table. -/
structure Rb (w0 w : World) (T G : Nat) (As : List (Option Addr × Nat)) (n : Int) (Q : List (List Int)) : Prop where
  tg : Tg w0 w 51 #[.slice (some ⟨G, 0, none⟩) Q.length Q.length, .int .i64 n] T G As Q
  nm : Nm n Q
theorem Rb.c0 (h : Rb w0 w T G As n Q) : w.cell? ⟨T, 0, none⟩ = some (.slice (some ⟨G, 0, none⟩) Q.length Q.length) := cell_of_row w T 0 _ _ _ h.tg.blk
theorem Rb.c1 (h : Rb w0 w T G As n Q) : w.cell? ⟨T, 1, none⟩ = some (.int .i64 n) := cell_of_row w T 1 _ _ _ h.tg.blk
theorem Rb.below (h : Rb w0 w T G As n Q) (hb : Below w.heap.size w w1) : Rb w0 w1 T G As n Q := ⟨h.tg.below hb, h.nm⟩
theorem Tg.rb {m : Nat} (h : Tg w0 w 51 #[.slice (some ⟨G, 0, none⟩) m m, .int .i64 n] T G As Q) (hm : Q.length = m) (hn : Nm n Q) : Rb w0 w T G As n Q := by
  subst hm
  exact ⟨h, hn⟩
theorem Nm.want (h : Nm n Q) (p id : Int) : Nm n (wantQ Q n p id) := ⟨by rw [want_len]; exact h.l0, by rw [want_len]; exact h.l1, h.n0, h.n1, h.inv.wants n p id, h.rng.want p id⟩
theorem Nm.free (h : Nm n Q) (p : Int) : Nm n (freeQ Q p) := ⟨by rw [free_len]; exact h.l0, by rw [free_len]; exact h.l1, h.n0, h.n1, h.inv.free p, h.rng.free p⟩
end
end Go.Proofs.Ythlodfahajaneaa
