/- append onto rows of keys and values: onto one that is full, onto one's own. -/
import Derived.Test.YthfafejjjmdpbaaVp
set_option linter.unusedSimpArgs false
set_option linter.unusedVariables false
namespace Go.Proofs.Ythfafejjjmdpbaa
open Go.RowKit
set_option maxRecDepth 100000 in
/-- 'append(l, m...)', l without room behind it: a new row. -/
theorem run_xfull (A : Option Addr) (L : List Xt) (w : World) (ty : TypeId) (hc : Cel w A (xv L)) (ad : Addr) (M : List Xt) (d : Nat) (hM : ∀ j u, (xv M)[j]? = some u → w.cell? (ad.add j) = some u) (h0 : 0 < M.length) (hl : L.length + M.length ≤ 1099511627776) :
    ∃ B c' w', (Builtin.append_ #[22, 22] ty #[.slice A L.length L.length, .slice (some ad) M.length d]).run Try.prog w = .ok (.slice B (L ++ M).length c') w' ∧ MineX w w' B (L ++ M).length c' (L ++ M) ∧ Below w.heap.size w w' := by
  obtain ⟨i0, hi, hz0, hz1, hz2⟩ := info_parts xattr_info
  have hlen : (L ++ M).length = L.length + M.length := List.length_append
  rw [hlen]
  have hbig : (L.length + M.length) * 32 ≤ 140737488355328 := by omega
  have grown : ∀ (old : Nat), old < L.length + M.length →
      MineX w (w.drew.alloc (.cells ((xv L).toArray ++ (xv M).toArray ++ Builtin.zeroCells (Value.agg #[.string ⟨#[]⟩, .string ⟨#[]⟩]).cells (grownCap w (L.length + M.length) old 42 - (L.length + M.length))) 42)) (some ⟨w.heap.size, 0, none⟩) (L.length + M.length) (grownCap w (L.length + M.length) old 42) (L ++ M) ∧
      Below w.heap.size w (w.drew.alloc (.cells ((xv L).toArray ++ (xv M).toArray ++ Builtin.zeroCells (Value.agg #[.string ⟨#[]⟩, .string ⟨#[]⟩]).cells (grownCap w (L.length + M.length) old 42 - (L.length + M.length))) 42)) := by
    intro old ho
    have hge := grownCap_ge w (L.length + M.length) old 42
    refine ⟨⟨⟨by rw [xv_length, hlen], hge, grownCap_le_maxLen w (L.length + M.length) old _ (by unfold maxLen; omega), .inr ⟨w.heap.size, _, rfl, heap_alloc_new w.drew _, ?_, ?_⟩⟩, fun ad e => by injection e with e; subst e; exact Nat.le_refl _⟩, ⟨rfl, rfl, rfl, by simp, fun k hk => Below.heap_alloc w.drew _ k hk⟩⟩
    · simp only [Array.size_append, List.size_toArray, size_zeroCells, xv_length]
      have e2 : (Value.agg #[.string ⟨#[]⟩, .string ⟨#[]⟩]).cells.size = 2 := rfl
      rw [e2]
      omega
    · simp only [Array.toList_append, List.append_assoc]
      rw [← List.append_assoc, ← hlen, xv_append, ← xv_append, ← xv_length]
      exact List.take_left
  rcases A with _ | a0
  · obtain rfl := cel_none hc
    have hr := run_append_nil (P := Try.prog) w 22 ty 42 i0 _ Try.underlying22 hi hz0 ad M.length d (xv M) (by rw [hz1, xv_length]) hM h0 (by omega) (by rw [hz2]; omega)
    obtain ⟨g1, g2⟩ := grown 0 (by omega)
    simp only [List.length_nil, Nat.zero_add, List.nil_append] at g1 g2 ⊢
    refine ⟨_, _, _, hr, ?_, ?_⟩
    · simpa [xv] using g1
    · simpa [xv] using g2
  · have holds : ∀ j u, (xv L)[j]? = some u → w.cell? (a0.add j) = some u := by
      intro j u hu
      obtain ⟨ad', h, _, hcc⟩ := hc (by have := (List.getElem?_eq_some_iff.1 hu).1; omega)
      injection h with h
      subst h
      exact hcc j u hu
    have hr := run_append_grow (P := Try.prog) w 22 ty 42 i0 _ Try.underlying22 hi hz0 a0 L.length L.length (xv L) (by rw [hz1, xv_length]) holds ad M.length d (xv M) (by rw [hz1, xv_length]) hM (by omega) (by omega) (growslice_fits (by omega) (by rw [hz2]; exact hbig))
    obtain ⟨g1, g2⟩ := grown L.length (by omega)
    exact ⟨_, _, _, hr, g1, g2⟩
set_option maxRecDepth 100000 in
/-- 'append(l, m...)' onto a row of one's own (laid behind v). -/
theorem run_xmore (v : World) (A : Option Addr) (L : List Xt) (c : Nat) (w : World) (ty : TypeId) (hown : MineX v w A L.length c L) (hv : v.heap.size ≤ w.heap.size) (B : Option Addr) (M : List Xt) (d : Nat) (hM : Cel w B (xv M)) (hl : L.length + M.length ≤ 1099511627776) :
    ∃ A' c' w', (Builtin.append_ #[22, 22] ty #[.slice A L.length c, .slice B M.length d]).run Try.prog w = .ok (.slice A' (L ++ M).length c') w' ∧ MineX v w' A' (L ++ M).length c' (L ++ M) ∧ Below v.heap.size w w' := by
  obtain ⟨i0, hi, hz0, hz1, hz2⟩ := info_parts xattr_info
  have hlen : (L ++ M).length = L.length + M.length := List.length_append
  rcases Nat.eq_zero_or_pos M.length with hm | hm
  · have hM0 : M = [] := List.eq_nil_of_length_eq_zero hm
    subst hM0
    have hc0 : L.length ≤ c := hown.1.2.1
    simp only [List.append_nil, List.length_nil]
    refine ⟨A, c, w, ?_, hown, Below.refl _ _⟩
    have hld : ∀ a : Addr, (loadCells a 0).run Try.prog w = .ok #[] w := fun a => run_loadCells_list (P := Try.prog) w a [] (by simp)
    rcases A with _ | a1 <;> rcases B with _ | b1 <;> simp [Builtin.append_, run_underlying Try.underlying22, sizeOf, typeInfo, hi, Builtin.lenOf, Builtin.firstCells, hld, storeCells, hc0]
  · obtain ⟨ad, rfl, _, hcc⟩ := hM (by rw [xv_length]; omega)
    obtain ⟨g, c', w', hrun, h2, h3, h4⟩ := run_append_r (P := Try.prog) w 22 ty 42 i0 _ 2 32 Try.underlying22 hi hz0 hz1 hz2 rfl A L.length c (xv L) hown.1 ad M.length d (xv M) (xv_length M) hcc (xv_one M) hm (by unfold maxLen; omega) (by omega)
    rw [hlen]
    refine ⟨_, c', w', hrun, ⟨by rw [xv_append]; exact h2, fun ad' e => ?_⟩, (Below.refl _ _).grown h3 hv (fun k hk => ?_)⟩
    · injection e with e
      subst e
      rcases h4 with h4 | h4
      · exact hown.2 _ h4
      · subst h4; exact hv
    · cases A with
      | none => cases hk
      | some a1 => injection hk with hk; subst hk; exact hown.2 _ rfl
theorem wpList_xfull {w : World} {ops : Array Oper} {rest : List Oper} {o : Oper} {a : Act} {Q : Exit → Act → World → Prop} (hgd : o.guard = none) (s x : Operand)
    (ho : o.op = .call { callee := .builtin .append, args := #[s, x], argTypes := #[22, 22] })
    (A : Option Addr) (L : List Xt) (n : Nat) (hn : n = L.length) (hs : a.eval s = .slice A n n) (hc : Cel w A (xv L)) (ad : Addr) (M : List Xt) (m d : Nat) (hm : m = M.length) (hx : a.eval x = .slice (some ad) m d) (hM : ∀ j u, (xv M)[j]? = some u → w.cell? (ad.add j) = some u) (h0 : 0 < m) (hl : n + m ≤ 1099511627776)
    (h : ∀ B c' w', MineX w w' B (L ++ M).length c' (L ++ M) → Below w.heap.size w w' → wpList Try.prog ops Q rest (a.put o.dst (.slice B (L ++ M).length c')) w') : wpList Try.prog ops Q (o :: rest) a w :=
  wpList_plain hgd fun _ hK => by
    subst hn hm
    obtain ⟨B, c', w', hrun, h2, h3⟩ := run_xfull A L w o.type hc ad M d hM h0 hl
    unfold Oper.wp execOp
    simp only [ho, resolve, invoke, builtin, Sem.run_bind, Sem.run_pure, Result.andThen_ok, List.map_toArray, List.map_cons, List.map_nil, hs, hx, hrun]
    exact hK _ _ (h B c' w' h2 h3)
theorem wpList_xmore {w : World} {ops : Array Oper} {rest : List Oper} {o : Oper} {a : Act} {Q : Exit → Act → World → Prop} (hgd : o.guard = none) (s x : Operand)
    (ho : o.op = .call { callee := .builtin .append, args := #[s, x], argTypes := #[22, 22] })
    (v : World) (A : Option Addr) (L : List Xt) (n c : Nat) (hn : n = L.length) (hs : a.eval s = .slice A n c) (hown : MineX v w A L.length c L) (hv : v.heap.size ≤ w.heap.size) (B : Option Addr) (M : List Xt) (m d : Nat) (hm : m = M.length) (hx : a.eval x = .slice B m d) (hM : Cel w B (xv M)) (hl : n + m ≤ 1099511627776)
    (h : ∀ A' c' w', MineX v w' A' (L ++ M).length c' (L ++ M) → Below v.heap.size w w' → wpList Try.prog ops Q rest (a.put o.dst (.slice A' (L ++ M).length c')) w') : wpList Try.prog ops Q (o :: rest) a w :=
  wpList_plain hgd fun _ hK => by
    subst hn hm
    obtain ⟨A', c', w', hrun, h2, h3⟩ := run_xmore v A L c w o.type hown hv B M d hM hl
    unfold Oper.wp execOp
    simp only [ho, resolve, invoke, builtin, Sem.run_bind, Sem.run_pure, Result.andThen_ok, List.map_toArray, List.map_cons, List.map_nil, hs, hx, hrun]
    exact hK _ _ (h A' c' w' h2 h3)
/-- The cells of one new one. -/
theorem one_xt {w : World} {g : Nat} {k v : ByteArray} (h : w.heap[g]? = some (.cells #[.string k, .string v] 42 (0, 0))) : ∀ j u, (xv [⟨k, v⟩])[j]? = some u → w.cell? ((⟨g, 0, none⟩ : Addr).add j) = some u := fun j u hu => by
  rw [add_zero_block, cell_of_row w g j _ 42 (0, 0) h]
  rw [← hu]
  simp [xv]
end Go.Proofs.Ythfafejjjmdpbaa
