/- What PoolApart holds: the row, who has each number, and who has numbers at all. -/
import Derived.Test.YtaafchcpnceddaaDoorUk
set_option linter.unusedSimpArgs false
set_option linter.unusedVariables false
namespace Go.Proofs.YtaafchcpnceddaaDoor
open Go.RowKit WordMath
theorem ni_len (T : List Nat) : (ni T).length = T.length := by unfold ni; rw [List.length_map]
/-- Each of those that have some: a row of ints beside the owners' block. -/
def Els (wr : World) (go : Nat) (H : List (List Nat)) (hs : List Value) : Prop :=
  ∀ (k : Nat) (t : List Nat), H[k]? = some t → ∃ A c, hs[k]? = some (Value.slice A t.length c) ∧ OwnR wr 3 1 A t.length c (iv (ni t)) ∧ ∀ ad, A = some ad → ad.block ≠ go
structure Pw (w wr : World) (go : Nat) (ow : List Int) (H : List (List Nat)) (hs : List Value) (Hd : Option Addr) (hn hc : Nat) : Prop where
  own : OwnR wr 3 1 (some ⟨go, 0, none⟩) 256 256 (iv ow)
  gow : w.heap.size ≤ go
  ll : H.length = hn
  hv : OwnR wr 25 1 Hd hn hc hs
  hf : ∀ ad, Hd = some ad → w.heap.size ≤ ad.block
  one : ∀ u ∈ hs, u.oneCell' = true
  el : Els wr go H hs
  bw : Below w.heap.size w wr
theorem OwnR.below {w w' : World} {e : TypeId} {size n c : Nat} {A : Option Addr} {xs : List Value} (h : OwnR w e size A n c xs) (hb : Below w.heap.size w w') : OwnR w' e size A n c xs := h.keep fun ad e => hb.block _ (h.lt ad e)
/-- The block of such a row. -/
theorem OwnR.block {w : World} {e : TypeId} {size n c : Nat} {A : Option Addr} {xs : List Value} (h : OwnR w e size A n c xs) : ∀ ad, A = some ad → ∃ cur, w.heap[ad.block]? = some (.cells cur e (0, 0)) := fun ad ha => by
  obtain ⟨_, _, _, h4⟩ := h
  rcases h4 with ⟨h4, _⟩ | ⟨g, cur, h4, hc, _⟩
  · rw [h4] at ha; cases ha
  · rw [h4] at ha
    injection ha with ha
    subst ha
    exact ⟨cur, hc⟩
theorem OwnR.apart {w : World} {e e' : TypeId} {size size' n n' c c' : Nat} {A A' : Option Addr} {xs xs' : List Value} (h : OwnR w e size A n c xs) (h' : OwnR w e' size' A' n' c' xs') (hne : e ≠ e') : ∀ ad ad', A = some ad → A' = some ad' → ad.block ≠ ad'.block := fun ad ad' ha ha' => by
  obtain ⟨cur, hc⟩ := h.block ad ha
  obtain ⟨cur', hc'⟩ := h'.block ad' ha'
  exact cells_type hc hc' hne
section
variable {w wr w' : World} {go hn hc : Nat} {ow : List Int} {H : List (List Nat)} {hs : List Value} {Hd : Option Addr}
theorem Els.keep (h : Els wr go H hs) (hb : ∀ ad, (∃ cur, wr.heap[ad.block]? = some (.cells cur 3 (0, 0))) → ad.block ≠ go → w'.heap[(ad : Addr).block]? = wr.heap[ad.block]?) : Els w' go H hs := fun k t hk => by
  obtain ⟨A, c, h1, h2, h3⟩ := h k t hk
  exact ⟨A, c, h1, h2.keep fun ad e => hb ad (h2.block ad e) (h3 ad e), h3⟩
theorem Pw.below (h : Pw w wr go ow H hs Hd hn hc) (hb : Below wr.heap.size wr w') : Pw w w' go ow H hs Hd hn hc :=
  ⟨h.own.below hb, h.gow, h.ll, h.hv.below hb, h.hf, h.one, h.el.keep fun ad ⟨cur, hc⟩ _ => hb.block _ (lt_of_cells hc), h.bw.trans (hb.mono h.bw.size)⟩
theorem Pw.lens (h : Pw w wr go ow H hs Hd hn hc) : hs.length = hn := by have := h.hv.1; omega
/-- One owner more, or less. -/
theorem Pw.put (h : Pw w wr go ow H hs Hd hn hc) (x : Nat) (hx : x < 256) (v : Int) : Pw w (wr.setCell ⟨go, x, none⟩ (.int .i64 v)) go (ow.set x v) H hs Hd hn hc := by
  have hoth : ∀ b, b ≠ go → (wr.setCell ⟨go, x, none⟩ (.int .i64 v)).heap[b]? = wr.heap[b]? := fun b hb => Below.heap_setCell wr ⟨go, x, none⟩ (.int .i64 v) b hb
  refine ⟨h.own.set x hx v, h.gow, h.ll, h.hv.keep fun ad e => hoth _ (h.hv.apart h.own (by decide) ad ⟨go, 0, none⟩ e rfl), h.hf, h.one, h.el.keep fun ad _ hne => hoth _ hne, h.bw.setCell (p := ⟨go, x, none⟩) h.gow _⟩
theorem OwnR.put {e : TypeId} {size n c g x : Nat} {A : Option Addr} {xs : List Value} {v : Value} (h : OwnR w e size A n c xs) (hA : ∀ ad, A = some ad → ad.block ≠ g) : OwnR (w.setCell ⟨g, x, none⟩ v) e size A n c xs :=
  h.keep fun ad e => Below.heap_setCell w ⟨g, x, none⟩ v _ (hA ad e)
theorem Row.put {A : Option Addr} {l : List Nat} {g x : Nat} {v : Value} (h : Row w A l) (hA : ∀ ad, A = some ad → ad.block ≠ g) : Row (w.setCell ⟨g, x, none⟩ v) A l := fun h0 => by
  obtain ⟨ad, e, hl, hc⟩ := h h0
  refine ⟨ad, e, by simpa [World.setCell] using hl, fun k hk => (World.cell?_of_block ?_).trans (hc k hk)⟩
  rw [add_block]
  exact Below.heap_setCell w ⟨g, x, none⟩ v _ (hA ad e)
/-- One more has some. -/
theorem Pw.more {o : Obj} {t : List Nat} {G : Option Addr} {cg g' c' : Nat} {w1 : World} (h : Pw w wr go ow H hs Hd hn hc) (hG : OwnR wr 3 1 G t.length cg (iv (ni t))) (hGo : ∀ ad, G = some ad → ad.block ≠ go)
    (hown : OwnR w1 25 1 (some ⟨g', 0, none⟩) (hn + 1) c' (hs ++ [.slice G t.length cg])) (hgr : (wr.alloc o).grownBy w1 (Hd.map (·.block))) (hg : Hd = some ⟨g', 0, none⟩ ∨ g' = (wr.alloc o).heap.size) :
    Pw w w1 go ow (H ++ [t]) (hs ++ [.slice G t.length cg]) (some ⟨g', 0, none⟩) (hn + 1) c' := by
  have hoth : ∀ b, b < wr.heap.size → (∀ ad, Hd = some ad → b ≠ ad.block) → w1.heap[b]? = wr.heap[b]? := fun b hb hne =>
    (hgr.block b (by rw [World.size_alloc]; omega) (fun e => by
      cases hHd : Hd with
      | none => rw [hHd] at e; cases e
      | some ad =>
        rw [hHd] at e
        injection e with e
        exact hne ad hHd e)).trans (Below.heap_alloc wr o b hb)
  have hint : ∀ ad : Addr, (∃ cur, wr.heap[ad.block]? = some (.cells cur 3 (0, 0))) → w1.heap[ad.block]? = wr.heap[ad.block]? := fun ad ⟨cur, hc⟩ =>
    hoth _ (lt_of_cells hc) fun ad' e => by
      obtain ⟨cur', hc'⟩ := h.hv.block ad' e
      exact cells_type hc hc' (by decide)
  have hl := h.lens
  refine ⟨h.own.keep fun ad e => hint ad (h.own.block ad e), h.gow, by rw [List.length_append, h.ll]; rfl, hown, ?_, ?_, ?_, ?_⟩
  · intro ad e
    injection e with e
    subst e
    rcases hg with hg | hg
    · exact h.hf _ hg
    · show w.heap.size ≤ g'
      rw [hg, World.size_alloc]
      have := h.bw.size
      omega
  · intro u hu
    rcases List.mem_append.1 hu with hu | hu
    · exact h.one u hu
    · rw [List.mem_singleton] at hu
      subst hu
      rfl
  · intro k t' hk
    by_cases hkl : k < H.length
    · rw [List.getElem?_append_left hkl] at hk
      obtain ⟨A, c, h1, h2, h3⟩ := h.el k t' hk
      exact ⟨A, c, by rw [List.getElem?_append_left (by have := h.ll; omega)]; exact h1, h2.keep fun ad e => hint ad (h2.block ad e), h3⟩
    · rw [List.getElem?_append_right (by omega)] at hk
      have hk0 : k - H.length = 0 := by
        rcases Nat.eq_zero_or_pos (k - H.length) with h0 | h0
        · exact h0
        · rw [List.getElem?_eq_none (by simp; omega)] at hk; cases hk
      rw [hk0] at hk
      injection hk with hk
      subst hk
      have hll := h.ll
      refine ⟨G, cg, ?_, hG.keep fun ad e => hint ad (hG.block ad e), hGo⟩
      rw [List.getElem?_append_right (by omega), show k - hs.length = 0 by omega]
      rfl
  · refine (h.bw.alloc h.bw.size o).grown hgr (by rw [World.size_alloc]; have := h.bw.size; omega) fun k e => ?_
    cases hHd : Hd with
    | none => rw [hHd] at e; cases e
    | some ad =>
      rw [hHd] at e
      injection e with e
      rw [← e]
      exact h.hf ad hHd
end
section
variable {P : Program}
/-- Where 'x[k+1:]' begins. -/
def restA (g k hc : Nat) : Addr := if hc = k + 1 then ⟨g, 0, none⟩ else ⟨g, k + 1, none⟩
theorem take_drop_len {hs : List Value} {k hn : Nat} (hk : k < hn) (hl : hs.length = hn) : (hs.take k ++ hs.drop (k + 1)).length = hn - 1 := by
  rw [List.length_append, List.length_take, List.length_drop]; omega
/-- 'append(x[:k], x[k+1:]...)': in place. -/
theorem run_remove (w : World) (t ty e : TypeId) (i : TypeInfo) (ht : P.underlying t = some (.slice e)) (hi : P.info? e = some i) (hsz : i.size = 1) (g hn hc k : Nat) (hs : List Value) (h : OwnR w e 1 (some ⟨g, 0, none⟩) hn hc hs) (hk : k < hn) (h1 : ∀ u ∈ hs, u.oneCell' = true) :
    ∃ w', (Builtin.append_ #[t, t] ty #[.slice (some ⟨g, 0, none⟩) k hc, .slice (some (restA g k hc)) (hn - (k + 1)) (hc - (k + 1))]).run P w = .ok (.slice (some ⟨g, 0, none⟩) (hn - 1) hc) w' ∧
      OwnR w' e 1 (some ⟨g, 0, none⟩) (hn - 1) hc (hs.take k ++ hs.drop (k + 1)) ∧ w.grownBy w' (some g) := by
  have hcel := h.cel
  obtain ⟨hl, hnc, hm, h4⟩ := h
  rw [Nat.mul_one] at hl
  rcases h4 with ⟨h4, _⟩ | ⟨g2, cur, h4, hg, hcs, htk⟩
  · cases h4
  · injection h4 with h4
    injection h4 with h4
    subst h4
    rw [Nat.mul_one] at hcs htk
    have hnews : ∀ j u, (hs.drop (k + 1))[j]? = some u → w.cell? ((restA g k hc).add j) = some u := fun j u hu => by
      have hj : k + 1 + j < hn := by
        have := (List.getElem?_eq_some_iff.1 hu).1
        rw [List.length_drop] at this
        omega
      obtain ⟨ad, e1, _, hcc⟩ := hcel (by omega)
      injection e1 with e1
      subst e1
      have e2 : (restA g k hc).add j = (⟨g, 0, none⟩ : Addr).add (k + 1 + j) := by
        unfold restA
        rw [if_neg (by omega), add_zero_block]
        unfold Addr.add
        split
        · subst j; rfl
        · rfl
      rw [e2]
      rw [List.getElem?_drop] at hu
      exact hcc _ u hu
    have hr := run_append_room (P := P) w t ty e i ht hi g k hc cur hg (restA g k hc) (hn - (k + 1)) (hc - (k + 1)) (hs.drop (k + 1)) (by rw [List.length_drop, hsz]; omega) hnews (fun u hu => h1 u (List.mem_of_mem_drop hu)) (by omega) (by rw [List.length_drop, hsz]; omega)
    rw [hsz, Nat.mul_one, show k + (hn - (k + 1)) = hn - 1 by omega] at hr
    have hck : cur.toList.take k = hs.take k := by rw [← htk, List.take_take, Nat.min_eq_left (by omega)]
    have hcz : hn ≤ cur.toList.length := by rw [Array.length_toList]; omega
    refine ⟨_, hr, ⟨by rw [take_drop_len hk hl, Nat.mul_one], by omega, hm, .inr ⟨g, _, rfl, setRow_heap w g cur _ e _ hg, ?_, ?_⟩⟩, ⟨rfl, rfl, rfl, by simp, fun j _ hj => setRow_other w g j _ (fun e => hj (by rw [e]))⟩⟩
    · simp only [List.size_toArray, List.length_append, List.length_take, List.length_drop]
      have e3 : cur.toList.length = cur.size := Array.length_toList
      rw [e3] at hcz
      have e1 : min k cur.size = k := Nat.min_eq_left (by omega)
      rw [e3, e1, Nat.mul_one]
      omega
    · show List.take ((hn - 1) * 1) (cur.toList.take k ++ hs.drop (k + 1) ++ cur.toList.drop (k + (hs.drop (k + 1)).length)) = _
      rw [Nat.mul_one, hck, List.take_append_of_le_length (by rw [take_drop_len hk hl]; omega), List.take_of_length_le (by rw [take_drop_len hk hl]; omega)]
theorem wpList_remove {w : World} {ops : Array Oper} {rest : List Oper} {o : Oper} {a : Act} {Q : Exit → Act → World → Prop} (hgd : o.guard = none) (s x : Operand) (t : TypeId)
    (ho : o.op = .call { callee := .builtin .append, args := #[s, x], argTypes := #[t, t] })
    (e : TypeId) (i : TypeInfo) (ht : P.underlying t = some (.slice e)) (hi : P.info? e = some i) (hsz : i.size = 1) (g hn hc k : Nat) (hs : List Value) (hw : OwnR w e 1 (some ⟨g, 0, none⟩) hn hc hs) (hk : k < hn) (h1 : ∀ u ∈ hs, u.oneCell' = true)
    (he1 : a.eval s = .slice (some ⟨g, 0, none⟩) k hc) (he2 : a.eval x = .slice (some (restA g k hc)) (hn - (k + 1)) (hc - (k + 1)))
    (h : ∀ w', OwnR w' e 1 (some ⟨g, 0, none⟩) (hn - 1) hc (hs.take k ++ hs.drop (k + 1)) → w.grownBy w' (some g) → wpList P ops Q rest (a.put o.dst (.slice (some ⟨g, 0, none⟩) (hn - 1) hc)) w') : wpList P ops Q (o :: rest) a w :=
  wpList_plain hgd fun _ hK => by
    obtain ⟨w', hrun, h2, h3⟩ := run_remove (P := P) w t o.type e i ht hi hsz g hn hc k hs hw hk h1
    unfold Oper.wp execOp
    simp only [ho, resolve, invoke, builtin, Sem.run_bind, Sem.run_pure, Result.andThen_ok, List.map_toArray, List.map_cons, List.map_nil, he1, he2, hrun]
    exact hK _ _ (h w' h2 h3)
end
theorem Pw.less {w wr w1 : World} {go hn hc g k : Nat} {ow : List Int} {H : List (List Nat)} {hs : List Value} (h : Pw w wr go ow H hs (some ⟨g, 0, none⟩) hn hc) (hk : k < hn)
    (hown : OwnR w1 25 1 (some ⟨g, 0, none⟩) (hn - 1) hc (hs.take k ++ hs.drop (k + 1))) (hgr : wr.grownBy w1 (some g)) :
    Pw w w1 go ow (H.take k ++ H.drop (k + 1)) (hs.take k ++ hs.drop (k + 1)) (some ⟨g, 0, none⟩) (hn - 1) hc := by
  have hint : ∀ ad : Addr, (∃ cur, wr.heap[ad.block]? = some (.cells cur 3 (0, 0))) → w1.heap[ad.block]? = wr.heap[ad.block]? := fun ad ⟨cur, hc⟩ =>
    hgr.block _ (lt_of_cells hc) fun e => by
      obtain ⟨cur', hc'⟩ := h.hv.block _ rfl
      injection e with e
      exact cells_type hc hc' (by decide) e
  have hl := h.lens
  have hll := h.ll
  refine ⟨h.own.keep fun ad e => hint ad (h.own.block ad e), h.gow, by rw [List.length_append, List.length_take, List.length_drop]; omega, hown, h.hf, ?_, ?_, ?_⟩
  · intro u hu
    rcases List.mem_append.1 hu with hu | hu
    · exact h.one u (List.mem_of_mem_take hu)
    · exact h.one u (List.mem_of_mem_drop hu)
  · intro q t hq
    have main : ∃ q' : Nat, H[q']? = some t ∧ hs[q']? = (hs.take k ++ hs.drop (k + 1))[q]? := by
      by_cases hqk : q < k
      · refine ⟨q, ?_, ?_⟩
        · rw [List.getElem?_append_left (by rw [List.length_take]; omega), List.getElem?_take_of_lt hqk] at hq
          exact hq
        · rw [List.getElem?_append_left (by rw [List.length_take]; omega), List.getElem?_take_of_lt hqk]
      · refine ⟨q + 1, ?_, ?_⟩
        · rw [List.getElem?_append_right (by rw [List.length_take]; omega), List.getElem?_drop, List.length_take, show k + 1 + (q - min k H.length) = q + 1 by omega] at hq
          exact hq
        · rw [List.getElem?_append_right (by rw [List.length_take]; omega), List.getElem?_drop, List.length_take, show k + 1 + (q - min k hs.length) = q + 1 by omega]
    obtain ⟨q', h1, h2⟩ := main
    obtain ⟨A, c, h3, h4, h5⟩ := h.el q' t h1
    exact ⟨A, c, h2 ▸ h3, h4.keep fun ad e => hint ad (h4.block ad e), h5⟩
  · exact h.bw.grown hgr h.bw.size fun j e => by
      injection e with e
      rw [← e]
      exact h.hf _ rfl
end Go.Proofs.YtaafchcpnceddaaDoor
