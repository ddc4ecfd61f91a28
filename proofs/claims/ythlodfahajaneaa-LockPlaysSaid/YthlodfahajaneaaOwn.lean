/- 'append(nil, l...)', told as an owned row. -/
import Derived.Test.YthlodfahajaneaaMem
import Derived.BigFrame
set_option linter.unusedSimpArgs false
set_option linter.unusedVariables false
namespace Go.Proofs.Ythlodfahajaneaa
open Go.RowKit
section
variable {P : Program}
theorem run_clone_own (w : World) (t ty e : TypeId) (i : TypeInfo) (ht : P.underlying t = some (.slice e)) (hi : P.info? e = some i) (hz : i.zero = some (.int .u64 0)) (hsize : i.size = 1) (hby : i.bytes = 8)
    (A : Option Addr) (l : List Nat) (c : Nat) (hr : Row w A l) (hlen : l.length ≤ 17592186044416) :
    ∃ v w', (Builtin.append_ #[t, t] ty #[.slice none 0 0, .slice A l.length c]).run P w = .ok v w' ∧ w'.ownsRow w.heap.size e 1 v l.length (wv l) ∧ Below w.heap.size w w' := by
  rcases A with _ | ad
  · have h0 : l = [] := by
      cases l with
      | nil => rfl
      | cons x r => obtain ⟨ad, h, _⟩ := hr (by simp); cases h
    subst h0
    refine ⟨.slice none 0 0, w, ?_, World.ownsRow_nil _ _ _ _, Below.refl _ _⟩
    simp [Builtin.append_, run_underlying ht, sizeOf, typeInfo, hi, Builtin.lenOf, Builtin.firstCells]
  · have hcells : ∀ j u, (wv l)[j]? = some u → w.cell? (ad.add j) = some u := by
      intro j u hu
      have hj : j < l.length := by
        rcases Nat.lt_or_ge j l.length with h | h
        · exact h
        · rw [List.getElem?_eq_none (by rw [wv_length]; exact h)] at hu; cases hu
      obtain ⟨ad', h, _, hc⟩ := hr (by omega)
      injection h with h
      subst h
      rw [wv_get l j hj] at hu
      rw [hc j hj]; exact hu
    obtain ⟨v', w', hrun, h2, h3, _⟩ := run_append_own (P := P) w w.heap.size t ty e i (.int .u64 0) 1 8 ht hi hz hsize hby rfl (by decide) (.slice none 0 0) 0 [] (World.ownsRow_nil _ _ _ _) ad l.length c (wv l) (by rw [wv_length]; omega) hcells (wv_one l) (by unfold maxLen; omega) (by omega) (Nat.le_refl _)
    rw [List.nil_append, Nat.zero_add] at h2
    exact ⟨v', w', hrun, h2, (Below.refl _ _).grown h3 (Nat.le_refl _) (by simp [Value.ownBlock])⟩
theorem wpList_clone_own {w : World} {ops : Array Oper} {rest : List Oper} {o : Oper} {a : Act} {Q : Exit → Act → World → Prop} (hgd : o.guard = none) (s x : Operand) (t : TypeId)
    (ho : o.op = .call { callee := .builtin .append, args := #[s, x], argTypes := #[t, t] })
    (e : TypeId) (i : TypeInfo) (ht : P.underlying t = some (.slice e)) (hi : P.info? e = some i) (hz : i.zero = some (.int .u64 0)) (hsize : i.size = 1) (hby : i.bytes = 8)
    (A : Option Addr) (l : List Nat) (c : Nat) (hs : a.eval s = .slice none 0 0) (hx : a.eval x = .slice A l.length c) (hr : Row w A l) (hlen : l.length ≤ 17592186044416)
    (h : ∀ v w', w'.ownsRow w.heap.size e 1 v l.length (wv l) → Below w.heap.size w w' → wpList P ops Q rest (a.put o.dst v) w') : wpList P ops Q (o :: rest) a w :=
  wpList_plain hgd fun _ hK => by
    obtain ⟨v, w', hrun, h2, h3⟩ := run_clone_own (P := P) w t o.type e i ht hi hz hsize hby A l c hr hlen
    unfold Oper.wp execOp
    simp only [ho, resolve, invoke, builtin, Sem.run_bind, Sem.run_pure, Result.andThen_ok, List.map_toArray, List.map_cons, List.map_nil, hs, hx, hrun]
    exact hK _ _ (h v w' h2 h3)
/-- What an owned row reads as, with its capacity. -/
theorem Row.of_ownC {w : World} {base n : Nat} {e : TypeId} {v : Value} {l : List Nat} (h : w.ownsRow base e 1 v n (wv l)) :
    n = l.length ∧ ∃ A c, v = .slice A l.length c ∧ Row w A l ∧ Fresh base A ∧ (0 < l.length → ∃ g, A = some ⟨g, 0, none⟩ ∧ base ≤ g ∧ Blkp e w g l) ∧ l.length ≤ c := by
  have hl : n = l.length := by have := h.1; rw [wv_length] at this; omega
  subst hl
  refine ⟨rfl, ?_⟩
  rcases h.2 with ⟨rfl, h0⟩ | ⟨g, cap, cur, rfl, hg, hh, hn, hc, hsz, htake⟩
  · exact ⟨none, 0, by rw [h0], fun h1 => absurd h1 (by omega), Fresh.none, fun h1 => absurd h1 (by omega), by omega⟩
  · have hb : Blkp e w g l := ⟨cur, hh, by rw [Nat.mul_one] at htake; exact htake⟩
    exact ⟨some ⟨g, 0, none⟩, cap, rfl, hb.row, Fresh.at hg, fun _ => ⟨g, rfl, hg, hb⟩, hn⟩
theorem wpList_cloneC {w : World} {ops : Array Oper} {rest : List Oper} {o : Oper} {a : Act} {Q : Exit → Act → World → Prop} (hgd : o.guard = none) (s x : Operand) (t : TypeId)
    (ho : o.op = .call { callee := .builtin .append, args := #[s, x], argTypes := #[t, t] })
    (e : TypeId) (i : TypeInfo) (ht : P.underlying t = some (.slice e)) (hi : P.info? e = some i) (hz : i.zero = some (.int .u64 0)) (hsize : i.size = 1) (hby : i.bytes = 8)
    (A : Option Addr) (l : List Nat) (c : Nat) (hs : a.eval s = .slice none 0 0) (hx : a.eval x = .slice A l.length c) (hr : Row w A l) (hlen : l.length ≤ 17592186044416)
    (h : ∀ A' c' w', Row w' A' l → Fresh w.heap.size A' → Below w.heap.size w w' → (0 < l.length → ∃ g, A' = some ⟨g, 0, none⟩ ∧ w.heap.size ≤ g ∧ Blkp e w' g l) → l.length ≤ c' → wpList P ops Q rest (a.put o.dst (.slice A' l.length c')) w') : wpList P ops Q (o :: rest) a w :=
  wpList_clone_own hgd s x t ho e i ht hi hz hsize hby A l c hs hx hr hlen fun v w' hown hb => by
    obtain ⟨_, A', c', rfl, h1, h2, h3, h4⟩ := Row.of_ownC hown
    exact h A' c' w' h1 h2 hb h3 h4
/-- .. behind '&&' and '||'. -/
theorem wpList_cloneW {w : World} {ops : Array Oper} {rest : List Oper} {o : Oper} {a : Act} {Q : Exit → Act → World → Prop} (hgd : Region.wanted o (yielded ops a.tmps) = true) (s x : Operand) (t : TypeId)
    (ho : o.op = .call { callee := .builtin .append, args := #[s, x], argTypes := #[t, t] })
    (e : TypeId) (i : TypeInfo) (ht : P.underlying t = some (.slice e)) (hi : P.info? e = some i) (hz : i.zero = some (.int .u64 0)) (hsize : i.size = 1) (hby : i.bytes = 8)
    (A : Option Addr) (l : List Nat) (c : Nat) (hs : a.eval s = .slice none 0 0) (hx : a.eval x = .slice A l.length c) (hr : Row w A l) (hlen : l.length ≤ 17592186044416)
    (h : ∀ A' c' w', Row w' A' l → Fresh w.heap.size A' → Below w.heap.size w w' → (0 < l.length → ∃ g, A' = some ⟨g, 0, none⟩ ∧ w.heap.size ≤ g ∧ Blkp e w' g l) → l.length ≤ c' → wpList P ops Q rest (a.put o.dst (.slice A' l.length c')) w') : wpList P ops Q (o :: rest) a w :=
  BigFrame.wpList_want hgd fun _ hK => by
    obtain ⟨v, w', hrun, h2, h3⟩ := run_clone_own (P := P) w t o.type e i ht hi hz hsize hby A l c hr hlen
    obtain ⟨_, A', c', rfl, e1, e2, e3, e4⟩ := Row.of_ownC h2
    unfold Oper.wp execOp
    simp only [ho, resolve, invoke, builtin, Sem.run_bind, Sem.run_pure, Result.andThen_ok, List.map_toArray, List.map_cons, List.map_nil, hs, hx, hrun]
    exact hK _ _ (h A' c' w' e1 e2 h3 e3 e4)
theorem wv_append (l m : List Nat) : wv (l ++ m) = wv l ++ wv m := by simp [wv]
end
end Go.Proofs.Ythlodfahajaneaa
