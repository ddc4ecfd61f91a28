/- Queues in memory: a block of slices, each of which owns a row of ints. No program stands here: ts is the slices' type, te the ints'. -/
import Derived.Test.YthlodfahajaneaaUa
import Derived.Test.YthlodfahajaneaaKm
set_option linter.unusedSimpArgs false
set_option linter.unusedVariables false
namespace Go.Proofs.Ythlodfahajaneaa
open Go.RowKit LockMath
/-- Where queue i lies; its capacity. -/
abbrev qA (As : List (Option Addr × Nat)) (i : Nat) : Option Addr := (As.getD i (none, 0)).1
abbrev qC (As : List (Option Addr × Nat)) (i : Nat) : Nat := (As.getD i (none, 0)).2
theorem q_set (As : List (Option Addr × Nat)) (i j : Nat) (x : Option Addr × Nat) (hi : i < As.length) : (As.set i x).getD j (none, 0) = if i = j then x else As.getD j (none, 0) := by
  rw [List.getD_eq_getElem?_getD, List.getElem?_set, List.getD_eq_getElem?_getD]
  by_cases h : i = j
  · subst h; simp [hi]
  · simp [h]
structure Qm (w0 w : World) (ts te : TypeId) (G : Nat) (As : List (Option Addr × Nat)) (Q : List (List Int)) : Prop where
  ne : te ≠ ts
  al : As.length = Q.length
  hG : w0.heap.size ≤ G
  blk : ∃ cur, w.heap[G]? = some (.cells cur ts (0, 0)) ∧ ∀ i, i < Q.length → cur[i]? = some (.slice (qA As i) (qu Q i).length (qC As i))
  own : ∀ i, i < Q.length → OwnR w te 1 (qA As i) (qu Q i).length (qC As i) (iv (qu Q i))
  hi : ∀ i, i < Q.length → ∀ ad, qA As i = some ad → w0.heap.size ≤ ad.block
  ap : ∀ i j, i < Q.length → j < Q.length → i ≠ j → ∀ a b, qA As i = some a → qA As j = some b → a.block ≠ b.block
/-- All its blocks. -/
def QF (G : Nat) (As : List (Option Addr × Nat)) (k : Nat) : Prop := k = G ∨ ∃ i ad, qA As i = some ad ∧ k = ad.block
theorem own_block {w : World} {e : TypeId} {size n c : Nat} {A : Option Addr} {xs : List Value} (h : OwnR w e size A n c xs) {ad : Addr} (hA : A = some ad) : ∃ cur, w.heap[ad.block]? = some (.cells cur e (0, 0)) := by
  obtain ⟨_, _, _, h4⟩ := h
  rcases h4 with ⟨h4, _⟩ | ⟨g, cur, h4, hg, _⟩
  · rw [h4] at hA; cases hA
  · rw [h4] at hA
    injection hA with hA
    subst hA
    exact ⟨cur, hg⟩
section
variable {w0 w w1 : World} {ts te : TypeId} {G i : Nat} {As : List (Option Addr × Nat)} {Q : List (List Int)}
theorem Qm.cell (h : Qm w0 w ts te G As Q) (hi : i < Q.length) : w.cell? ⟨G, i, none⟩ = some (.slice (qA As i) (qu Q i).length (qC As i)) := by
  obtain ⟨cur, hg, hc⟩ := h.blk
  rw [cell_of_row w G i _ _ _ hg]
  exact hc i hi
theorem Qm.frozen (h : Qm w0 w ts te G As Q) (k : Nat) : w.frozen? ⟨G, k, none⟩ = false := by
  obtain ⟨cur, hg, _⟩ := h.blk
  simp [World.frozen?, hg]
theorem Qm.row (h : Qm w0 w ts te G As Q) (hi : i < Q.length) : Cel w (qA As i) (iv (qu Q i)) := (h.own i hi).cel
theorem Qm.ltG (h : Qm w0 w ts te G As Q) : G < w.heap.size := by
  obtain ⟨cur, hg, _⟩ := h.blk
  exact lt_of_cells hg
theorem Qm.lt (h : Qm w0 w ts te G As Q) (hi : i < Q.length) {ad : Addr} (ha : qA As i = some ad) : ad.block < w.heap.size := (h.own i hi).lt ad ha
theorem Qm.neG (h : Qm w0 w ts te G As Q) (hi : i < Q.length) {ad : Addr} (ha : qA As i = some ad) : ad.block ≠ G := by
  obtain ⟨cur, hg, _⟩ := h.blk
  obtain ⟨cur2, hg2⟩ := own_block (h.own i hi) ha
  exact cells_type hg2 hg h.ne
theorem Qm.keep (h : Qm w0 w ts te G As Q) (hb : w1.heap[G]? = w.heap[G]?) (hr : ∀ i, i < Q.length → ∀ ad, qA As i = some ad → w1.heap[ad.block]? = w.heap[ad.block]?) : Qm w0 w1 ts te G As Q := by
  obtain ⟨cur, hg, hc⟩ := h.blk
  exact ⟨h.ne, h.al, h.hG, ⟨cur, hb.trans hg, hc⟩, fun i hi => (h.own i hi).keep (hr i hi), h.hi, h.ap⟩
theorem Qm.below (h : Qm w0 w ts te G As Q) (hb : Below w.heap.size w w1) : Qm w0 w1 ts te G As Q :=
  h.keep (hb.block _ h.ltG) fun i hi ad ha => hb.block _ (h.lt hi ha)
/-- Queue i is another row, which is the call's own and none of the others'. -/
theorem Qm.put (h : Qm w0 w ts te G As Q) (hi : i < Q.length) {A : Option Addr} {n c : Nat} {l : List Int} (hn : n = l.length) (hG : w1.heap[G]? = w.heap[G]?) (ho : OwnR w1 te 1 A n c (iv l))
    (hh : ∀ ad, A = some ad → w0.heap.size ≤ ad.block) (hr : ∀ j, j < Q.length → j ≠ i → ∀ b, qA As j = some b → w1.heap[b.block]? = w.heap[b.block]? ∧ ∀ a, A = some a → a.block ≠ b.block) :
    Qm w0 (w1.setCell ⟨G, i, none⟩ (.slice A n c)) ts te G (As.set i (A, c)) (Q.set i l) := by
  subst hn
  obtain ⟨cur, hg, hc⟩ := h.blk
  have hg1 := hG.trans hg
  have hil : i < As.length := by rw [h.al]; exact hi
  have hset : (w1.setCell ⟨G, i, none⟩ (.slice A l.length c)).heap[G]? = some (.cells (cur.setIfInBounds i (.slice A l.length c)) ts (0, 0)) := by
    simp [World.setCell, Array.getElem?_modify, hg1]
  have hcs : i < cur.size := by
    have := hc i hi
    rcases Nat.lt_or_ge i cur.size with h1 | h1
    · exact h1
    · rw [Array.getElem?_eq_none h1] at this; cases this
  have qq : ∀ j, qu (Q.set i l) j = if i = j then l else qu Q j := fun j => by
    rw [qu_set]
    by_cases hij : i = j
    · rw [if_pos hij, if_pos ⟨hij, hi⟩]
    · rw [if_neg hij, if_neg (fun h => hij h.1)]
  refine ⟨h.ne, by rw [List.length_set, List.length_set]; exact h.al, h.hG, ⟨_, hset, fun j hj => ?_⟩, fun j hj => ?_, fun j hj ad ha => ?_, fun j k hj hk hjk a b ha hb => ?_⟩
  · rw [List.length_set] at hj
    rw [Array.getElem?_setIfInBounds, qq]
    unfold qA qC
    rw [q_set As i j _ hil]
    by_cases hij : i = j
    · subst hij
      rw [if_pos rfl, if_pos hcs, if_pos rfl, if_pos rfl]
    · rw [if_neg hij, if_neg hij, if_neg hij]
      exact hc j hj
  · rw [List.length_set] at hj
    rw [qq]
    unfold qA qC
    rw [q_set As i j _ hil]
    by_cases hij : i = j
    · subst hij
      rw [if_pos rfl, if_pos rfl]
      refine ho.keep fun ad ha => Below.heap_setCell _ _ _ _ ?_
      obtain ⟨cur2, hg2⟩ := own_block ho ha
      exact cells_type hg2 hg1 h.ne
    · rw [if_neg hij, if_neg hij]
      refine (h.own j hj).keep fun ad ha => ?_
      refine (Below.heap_setCell _ _ _ _ ?_).trans (hr j hj (fun e => hij e.symm) ad ha).1
      exact h.neG hj ha
  · rw [List.length_set] at hj
    unfold qA at ha
    rw [q_set As i j _ hil] at ha
    by_cases hij : i = j
    · rw [if_pos hij] at ha; exact hh ad ha
    · rw [if_neg hij] at ha; exact h.hi j hj ad ha
  · rw [List.length_set] at hj hk
    unfold qA at ha hb
    rw [q_set As i j _ hil] at ha
    rw [q_set As i k _ hil] at hb
    by_cases hij : i = j
    · rw [if_pos hij] at ha
      have hik : ¬ i = k := fun e => hjk (hij.symm.trans e)
      rw [if_neg hik] at hb
      exact (hr k hk (fun e => hik e.symm) b hb).2 a ha
    · rw [if_neg hij] at ha
      by_cases hik : i = k
      · rw [if_pos hik] at hb
        exact fun e => (hr j hj (fun e => hij e.symm) a ha).2 b hb e.symm
      · rw [if_neg hik] at hb
        exact h.ap j k hj hk hjk a b ha hb
/-- One comes to stand in queue i: what 'append' has left. -/
theorem Qm.grow (h : Qm w0 w ts te G As Q) (hi : i < Q.length) (hw : w0.heap.size ≤ w.heap.size) {g c : Nat} {p : Int} (ho : OwnR w1 te 1 (some ⟨g, 0, none⟩) ((qu Q i).length + 1) c (iv (qu Q i) ++ [.int .i64 p]))
    (hg : w.grownBy w1 ((qA As i).map (·.block))) (hE : qA As i = some ⟨g, 0, none⟩ ∨ g = w.heap.size) :
    Qm w0 (w1.setCell ⟨G, i, none⟩ (.slice (some ⟨g, 0, none⟩) ((qu Q i).length + 1) c)) ts te G (As.set i (some ⟨g, 0, none⟩, c)) (Q.set i (qu Q i ++ [p])) := by
  have hne : ∀ k, (∃ cur, w.heap[k]? = some (.cells cur ts (0, 0))) → some k ≠ (qA As i).map (·.block) := fun k ⟨cur, hk⟩ e => by
    cases hA : qA As i with
    | none => rw [hA] at e; cases e
    | some ad =>
      rw [hA] at e
      injection e with e
      obtain ⟨cur2, hg2⟩ := own_block (h.own i hi) hA
      exact cells_type hg2 hk h.ne e.symm
  refine h.put hi (by rw [List.length_append]; rfl) (hg.block G h.ltG (hne G (by obtain ⟨cur, hk, _⟩ := h.blk; exact ⟨cur, hk⟩))) (by rw [iv_append]; exact ho) (fun ad e => ?_) fun j hj hji b hb => ⟨hg.block _ (h.lt hj hb) fun e => ?_, fun a e => ?_⟩
  · injection e with e
    subst e
    rcases hE with hE | hE
    · exact h.hi i hi _ hE
    · show w0.heap.size ≤ g
      omega
  · cases hA : qA As i with
    | none => rw [hA] at e; cases e
    | some ad =>
      rw [hA] at e
      injection e with e
      exact h.ap j i hj hi hji b ad hb hA e
  · injection e with e
    subst e
    rcases hE with hE | hE
    · exact fun e => h.ap j i hj hi hji b _ hb hE e.symm
    · have := h.lt hj hb
      simp only
      omega
/-- Empty queues. -/
theorem Qm.start {m : Nat} {cur : Array Value} (hne : te ≠ ts) (hG : w0.heap.size ≤ G) (hg : w.heap[G]? = some (.cells cur ts (0, 0))) (hc : ∀ i, i < m → cur[i]? = some (.slice none 0 0)) :
    Qm w0 w ts te G (List.replicate m (none, 0)) (List.replicate m []) := by
  have qq : ∀ i, qu (List.replicate m []) i = [] := fun i => by
    unfold qu
    rw [List.getD_eq_getElem?_getD, List.getElem?_replicate]; split <;> rfl
  have aa : ∀ i, (List.replicate m ((none, 0) : Option Addr × Nat)).getD i (none, 0) = (none, 0) := fun i => by
    rw [List.getD_eq_getElem?_getD, List.getElem?_replicate]; split <;> rfl
  refine ⟨hne, by simp, hG, ⟨cur, hg, fun i hi => ?_⟩, fun i hi => ?_, fun i hi ad ha => ?_, fun i j hi hj hij a b ha hb => ?_⟩
  · unfold qA qC
    rw [qq, aa]
    exact hc i (by simpa using hi)
  · unfold qA qC
    rw [qq, aa]
    exact OwnR.nil _ _ _
  · unfold qA at ha
    rw [aa] at ha; cases ha
  · unfold qA at ha
    rw [aa] at ha; cases ha
/-- Nothing but its blocks has turned: what lies beside it. -/
theorem Qm.other (h : Qm w0 w ts te G As Q) {k : Nat} {cur : Array Value} {t : TypeId} (hk : w.heap[k]? = some (.cells cur t (0, 0))) (h1 : t ≠ ts) (h2 : t ≠ te) : k ≠ G ∧ ∀ i, i < Q.length → ∀ ad, qA As i = some ad → ad.block ≠ k := by
  obtain ⟨curG, hg, _⟩ := h.blk
  refine ⟨cells_type hk hg h1, fun i hi ad ha => ?_⟩
  obtain ⟨cur2, hg2⟩ := own_block (h.own i hi) ha
  exact cells_type hg2 hk (Ne.symm h2)
end
end Go.Proofs.Ythlodfahajaneaa
