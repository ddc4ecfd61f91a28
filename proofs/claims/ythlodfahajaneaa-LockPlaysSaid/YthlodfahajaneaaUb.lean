/- Rows of ints of one's own; two rows of ints compared; a row cloned. -/
import Derived.Test.YthlodfahajaneaaUa
set_option linter.unusedSimpArgs false
set_option linter.unusedVariables false
namespace Go.Proofs.Ythlodfahajaneaa
open Go Go.RowKit WordMath
/-- Two rows of ints that read the same. -/
theorem isame_calls (A B : Option Addr) (l : List Int) (c d : Nat) (w : World) (ha : Cel w A (iv l)) (hb : Cel w B (iv l)) (hlen : l.length ≤ 140737488355328) :
    Calls Try.prog 21 #[.slice A l.length c, .slice B l.length d] w (Q (.bool true) w) := by
  go_enter Try.func21, Try.ntmps21
  go_wp2_with (fail)
  go_loopw [5] (fun i wr => ∃ k : Nat, i = .int .i64 k ∧ k ≤ l.length ∧ ∃ q, wr = w.drewN q) (fun i _ => l.length - (intOf i).toNat)
  case atStart => exact ⟨0, rfl, by omega, 0, rfl⟩
  case round =>
    obtain ⟨k, rfl, hk, q, rfl⟩ := hrel
    by_cases h1 : k < l.length
    · obtain ⟨ad, rfl, h1a⟩ := ha.int h1
      obtain ⟨ad', rfl, h1b⟩ := hb.int h1
      clear ha hb
      generalize l.getD k 0 = x at *
      go_wp2_with (fail)
      go_quiet (fail)
      go_wp2_with (fail)
      go_roundw
      case rel => exact ⟨k + 1, by go_num, by omega, _, rfl⟩
      case measure => simp [intOf]; omega
    · obtain rfl : k = l.length := by omega
      go_wp2_with (fail)
      go_ret
      exact Q.of
theorem on_alloc2 (w : World) (o : Obj) : Below w.heap.size w (w.alloc o) := (Below.refl _ _).alloc (Nat.le_refl _) o
/-- A row of ints of the call's own. -/
def IOwn (B : Nat) (w : World) (A : Option Addr) (c : Nat) (xs : List Int) : Prop := OwnR w 3 1 A xs.length c (iv xs) ∧ ∀ ad, A = some ad → B ≤ ad.block
theorem IOwn.nil (B : Nat) (w : World) : IOwn B w none 0 [] := ⟨OwnR.nil _ _ _, fun ad h => by cases h⟩
theorem IOwn.cel {B : Nat} {w : World} {A : Option Addr} {c : Nat} {xs : List Int} (h : IOwn B w A c xs) : Cel w A (iv xs) := h.1.cel
theorem IOwn.below {B : Nat} {w w' : World} {A : Option Addr} {c : Nat} {xs : List Int} (h : IOwn B w A c xs) (hb : Below w.heap.size w w') : IOwn B w' A c xs := ⟨h.1.keep fun ad e => hb.block _ (h.1.lt ad e), h.2⟩
theorem IOwn.mono {B B' : Nat} {w : World} {A : Option Addr} {c : Nat} {xs : List Int} (h : IOwn B w A c xs) (hb : B' ≤ B) : IOwn B' w A c xs := ⟨h.1, fun ad e => Nat.le_trans hb (h.2 ad e)⟩
/-- One element more, behind what the call has made. -/
theorem IOwn.step {B n : Nat} {w wa w1 : World} {A : Option Addr} {c c' g : Nat} {xs ys : List Int} {x : Int} (h : IOwn B wa A c xs) (hB : B ≤ wa.heap.size) (hbw : Below B w wa) (hn : xs.length = n)
    (hown : OwnR w1 3 1 (some ⟨g, 0, none⟩) (n + 1) c' (iv xs ++ iv [x])) (hgr : wa.grownBy w1 (A.map (·.block))) (hg : A = some ⟨g, 0, none⟩ ∨ g = wa.heap.size) (hy : xs ++ [x] = ys) :
    IOwn B w1 (some ⟨g, 0, none⟩) c' ys ∧ Below B w w1 ∧ ys.length = n + 1 := by
  subst hy
  have hl : (xs ++ [x]).length = n + 1 := by rw [List.length_append, hn]; rfl
  refine ⟨⟨by rw [hl, iv_append]; exact hown, ?_⟩, ?_, hl⟩
  · intro ad e
    injection e with e
    subst e
    rcases hg with hg | hg
    · exact h.2 _ hg
    · show B ≤ g
      omega
  · refine hbw.grown hgr hB ?_
    intro k hk
    cases A with
    | none => cases hk
    | some ad =>
      injection hk with hk
      rw [← hk]
      exact h.2 ad rfl
theorem IOwn.two {B : Nat} {w : World} {A : Option Addr} {c : Nat} {xs : List Int} (h : IOwn B w A c xs) (q : Nat) (o : Obj) : IOwn B ((w.drewN q).alloc o) A c xs := h.below ((below_drewN (Below.refl _ _) q).alloc (Nat.le_refl _) o)
theorem IOwn.at {B n : Nat} {w : World} {A : Option Addr} {c : Nat} {xs : List Int} (h : IOwn B w A c xs) (hn : xs.length = n) : OwnR w 3 1 A n c (iv xs) := by subst hn; exact h.1
theorem cells_one {w0 : World} {g : Nat} {x : Int} {t : TypeId} (hw : w0.heap[g]? = some (.cells #[.int .i64 x] t (0, 0))) :
    ∀ j u, (iv [x])[j]? = some u → w0.cell? ((⟨g, 0, none⟩ : Addr).add j) = some u := by
  intro j u hu
  rw [add_zero_block, cell_of_row w0 g j _ t (0, 0) hw, ← hu, List.getElem?_toArray]
  rfl
def ni (l : List Nat) : List Int := l.map fun (x : Nat) => (x : Int)
/-- It hands back a row of ints of its own. -/
def GivesI (xs : List Int) (w : World) (e : Ending) (w' : World) : Prop := ∃ A c, e = .returned (.slice A xs.length c) ∧ IOwn w.heap.size w' A c xs ∧ Below w.heap.size w w'
section
variable {P : Program} {w : World}
/-- 'append(S{}, s...)', an empty row of the call's own (block g0) ahead of it: a row of the call's own that reads as s. -/
theorem run_clone_r (t ty e : TypeId) (i : TypeInfo) (z : Value) (size bytes : Nat) (ht : P.underlying t = some (.slice e)) (hi : P.info? e = some i) (hz : i.zero = some z)
    (hsize : i.size = size) (hby : i.bytes = bytes) (hzs : z.cells.size = size) (hs0 : 0 < size)
    (g0 : Nat) (cur0 : Array Value) (h0 : w.heap[g0]? = some (.cells cur0 e (0, 0))) (A : Option Addr) (n c : Nat) (xs : List Value) (hr : Cel w A xs) (hl : xs.length = n * size) (h1 : ∀ u ∈ xs, u.oneCell' = true) (hm : n ≤ 1099511627776) (hb : bytes ≤ 64) :
    ∃ A' c' w', (Builtin.append_ #[t, t] ty #[.slice (some ⟨g0, 0, none⟩) 0 0, .slice A n c]).run P w = .ok (.slice A' n c') w' ∧ OwnR w' e size A' n c' xs ∧ w.grownBy w' (some g0) ∧ ∃ g, A' = some ⟨g, 0, none⟩ ∧ (g = g0 ∨ g = w.heap.size) := by
  rcases Nat.eq_zero_or_pos n with hn | hn
  · subst hn
    obtain rfl : xs = [] := List.eq_nil_of_length_eq_zero (by simpa using hl)
    refine ⟨some ⟨g0, 0, none⟩, 0, w, ?_, ⟨by simp, Nat.le_refl _, Nat.zero_le _, .inr ⟨g0, cur0, rfl, h0, by simp, by simp⟩⟩, World.grownBy.refl w _, g0, rfl, .inl rfl⟩
    have hld : ∀ a : Addr, (loadCells a 0).run P w = .ok #[] w := fun a => run_loadCells_list (P := P) w a [] (by simp)
    rcases A with _ | ad
    · simp [Builtin.append_, run_underlying ht, sizeOf, typeInfo, hi, Builtin.lenOf, Builtin.firstCells, storeCells]
    · simp [Builtin.append_, run_underlying ht, sizeOf, typeInfo, hi, Builtin.lenOf, Builtin.firstCells, hld, storeCells]
  · obtain ⟨ad, rfl, _, hc⟩ := hr (by rw [hl]; exact Nat.mul_pos hn hs0)
    have hbb : n * bytes ≤ 1099511627776 * 64 := Nat.mul_le_mul hm hb
    obtain ⟨g, c', w', hrun, h2, h3, h4⟩ := run_append_r (P := P) w t ty e i z size bytes ht hi hz hsize hby hzs (some ⟨g0, 0, none⟩) 0 0 [] ⟨by simp, Nat.le_refl _, Nat.zero_le _, .inr ⟨g0, cur0, rfl, h0, by simp, by simp⟩⟩ ad n c xs hl hc h1 hn (by unfold maxLen; omega) (by rw [Nat.zero_add]; omega)
    rw [List.nil_append] at h2
    rw [Nat.zero_add] at hrun h2
    exact ⟨_, c', w', hrun, h2, h3, g, rfl, h4.imp (fun h => by injection h with h; injection h with h; exact h.symm) id⟩
theorem wpList_clone_r {ops : Array Oper} {rest : List Oper} {o : Oper} {a : Act} {Q : Exit → Act → World → Prop} (hgd : o.guard = none) (s x : Operand) (t : TypeId)
    (ho : o.op = .call { callee := .builtin .append, args := #[s, x], argTypes := #[t, t] })
    (e : TypeId) (i : TypeInfo) (z : Value) (size bytes : Nat) (ht : P.underlying t = some (.slice e)) (hi : P.info? e = some i) (hz : i.zero = some z)
    (hsize : i.size = size) (hby : i.bytes = bytes) (hzs : z.cells.size = size) (hs0 : 0 < size)
    (g0 : Nat) (cur0 : Array Value) (h0 : w.heap[g0]? = some (.cells cur0 e (0, 0))) (A : Option Addr) (n c : Nat) (xs : List Value) (hr : Cel w A xs) (hl : xs.length = n * size) (h1 : ∀ u ∈ xs, u.oneCell' = true) (hm : n ≤ 1099511627776) (hb : bytes ≤ 64)
    (hs : a.eval s = .slice (some ⟨g0, 0, none⟩) 0 0) (hx : a.eval x = .slice A n c)
    (h : ∀ g c' w', OwnR w' e size (some ⟨g, 0, none⟩) n c' xs → w.grownBy w' (some g0) → (g = g0 ∨ g = w.heap.size) → wpList P ops Q rest (a.put o.dst (.slice (some ⟨g, 0, none⟩) n c')) w') : wpList P ops Q (o :: rest) a w :=
  wpList_plain hgd fun _ hK => by
    obtain ⟨A', c', w', hrun, h2, h3, g, rfl, h4⟩ := run_clone_r (P := P) (w := w) t o.type e i z size bytes ht hi hz hsize hby hzs hs0 g0 cur0 h0 A n c xs hr hl h1 hm hb
    unfold Oper.wp execOp
    simp only [ho, resolve, invoke, builtin, Sem.run_bind, Sem.run_pure, Result.andThen_ok, List.map_toArray, List.map_cons, List.map_nil, hs, hx, hrun]
    exact hK _ _ (h g c' w' h2 h3 h4)
end
end Go.Proofs.Ythlodfahajaneaa
