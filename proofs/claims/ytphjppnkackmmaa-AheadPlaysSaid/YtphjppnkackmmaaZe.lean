/- The document's own table in memory: a struct that holds a row of the call's own. -/
import Derived.Test.YtphjppnkackmmaaZc
set_option linter.unusedSimpArgs false
set_option linter.unusedVariables false
namespace Go.Proofs.Ytphjppnkackmmaa
open Go Go.RowKit SumMath WordMath
section
variable {w w' : World} {g n c : Nat}
theorem set_cell {b : Nat} {cs : Array Value} {t : TypeId} {w : World} (h : w.heap[b]? = some (.cells cs t (0, 0))) (k : Nat) (v : Value) : (w.setCell ⟨b, k, none⟩ v).heap[b]? = some (.cells (cs.setIfInBounds k v) t (0, 0)) := by
  simp [World.setCell, Array.getElem?_modify, h]
theorem OwnR.put {v : Value} {xs : List Value} {e : TypeId} {size : Nat} (h : OwnR w e size (some ⟨g, 0, none⟩) n c xs) (i : Nat) : OwnR (w.setCell ⟨g, i, none⟩ v) e size (some ⟨g, 0, none⟩) n c (xs.set i v) := by
  obtain ⟨h1, h2, h3, h4⟩ := h
  refine ⟨by rw [List.length_set]; exact h1, h2, h3, .inr ?_⟩
  rcases h4 with ⟨h4, _⟩ | ⟨g', cur, h4, hg, h5, h6⟩
  · cases h4
  · injection h4 with h4
    injection h4 with h4
    subst h4
    refine ⟨g, cur.setIfInBounds i v, rfl, set_cell hg i v, by simpa using h5, ?_⟩
    rw [Array.toList_setIfInBounds, List.take_set, h6]
theorem OwnR.head {xs : List Value} {e : TypeId} {size : Nat} {A : Option Addr} (h : OwnR w e size A n c xs) (hn : 0 < c) : ∃ g, A = some ⟨g, 0, none⟩ ∧ ∃ cur, w.heap[g]? = some (.cells cur e (0, 0)) := by
  obtain ⟨h1, h2, h3, h4⟩ := h
  rcases h4 with ⟨h4, h5⟩ | ⟨g', cur, h4, hg, h5, h6⟩
  · omega
  · exact ⟨g', h4, cur, hg⟩
theorem OwnR.other {xs : List Value} {e : TypeId} {size : Nat} {A : Option Addr} (h : OwnR w e size A n c xs) {a : Addr} (v : Value) (hne : ∀ ad, A = some ad → ad.block ≠ a.block) : OwnR (w.setCell a v) e size A n c xs :=
  h.keep fun ad e => Below.heap_setCell w a v ad.block (hne ad e)
theorem OwnR.apart {e e' : TypeId} {size : Nat} {A : Option Addr} {xs : List Value} {C : Array Value} (h : OwnR w e size A n c xs) (hg : w.heap[g]? = some (.cells C e' (0, 0))) (he : e ≠ e') : ∀ ad, A = some ad → ad.block ≠ g := fun ad hA hbl => by
  obtain ⟨_, _, _, h4⟩ := h
  rcases h4 with ⟨h4, _⟩ | ⟨g', cur, h4, hg', _⟩
  · rw [h4] at hA; cases hA
  · rw [h4] at hA; injection hA with hA; subst hA
    simp only at hbl
    subst hbl
    rw [hg] at hg'
    injection hg' with hg'
    injection hg' with _ h5
    exact he h5.symm
end
theorem ev_set : ∀ {L : List Re} {k : Nat} {p : Int} (x : Nat), k < L.length → (L.getD k re0).pos = p → (ev L).set (k * 2 + 1) (.int .u64 (x : Int)) = ev (L.set k ⟨p, x⟩) := by
  intro L
  induction L with
  | nil => intro k p x h; cases h
  | cons q r ih =>
    intro k p x h hp
    cases k with
    | zero =>
      have hp : q.pos = p := hp
      show .int .i64 q.pos :: .int .u64 (x : Int) :: ev r = .int .i64 p :: .int .u64 (x : Int) :: ev r
      rw [hp]
    | succ k =>
      have := ih x (show k < r.length by simpa using h) (show (r.getD k re0).pos = p from hp)
      rw [show (k + 1) * 2 + 1 = k * 2 + 1 + 1 + 1 by omega]
      show .int .i64 q.pos :: .int .u64 (q.word : Int) :: (ev r).set (k * 2 + 1) _ = .int .i64 q.pos :: .int .u64 (q.word : Int) :: ev (r.set k ⟨p, x⟩)
      rw [this]
theorem ev_drop : ∀ (L : List Re) (k : Nat), ev (L.drop k) = (ev L).drop (k * 2) := by
  intro L
  induction L with
  | nil => intro k; simp [ev]
  | cons q r ih =>
    intro k
    cases k with
    | zero => rfl
    | succ k => rw [show (k + 1) * 2 = k * 2 + 1 + 1 by omega]; exact ih k
theorem ev_take : ∀ (L : List Re) (k : Nat), ev (L.take k) = (ev L).take (k * 2) := by
  intro L
  induction L with
  | nil => intro k; simp [ev]
  | cons q r ih =>
    intro k
    cases k with
    | zero => simp [ev]
    | succ k =>
      rw [show (k + 1) * 2 = k * 2 + 1 + 1 by omega]
      show .int .i64 q.pos :: .int .u64 (q.word : Int) :: ev (r.take k) = _
      rw [ih k]; rfl
theorem Cel.take {w : World} {A : Option Addr} {L : List Re} (h : Cel w A (ev L)) (k : Nat) : Cel w A (ev (L.take k)) := fun h0 => by
  rw [ev_take] at h0 ⊢
  obtain ⟨ad, e, hl, hc⟩ := h (by rw [List.length_take] at h0; omega)
  refine ⟨ad, e, hl, fun j u hu => hc j u ?_⟩
  rw [List.getElem?_take] at hu
  split at hu
  · exact hu
  · cases hu
theorem Cel.drop {w : World} {b : Nat} {L : List Re} (h : Cel w (some ⟨b, 0, none⟩) (ev L)) (k : Nat) : ∀ j u, (ev (L.drop k))[j]? = some u → w.cell? ((⟨b, k * 2, none⟩ : Addr).add j) = some u := fun j u hu => by
  rw [ev_drop, List.getElem?_drop] at hu
  obtain ⟨b', o, e, hl, hc⟩ := h.at0 (by have := (List.getElem?_eq_some_iff.1 hu).1; omega)
  injection e with e
  injection e with e1 e2
  subst e1 e2
  have := hc _ _ hu
  rw [show (⟨b, k * 2, none⟩ : Addr).add j = ⟨b, k * 2 + j, none⟩ by
    unfold Addr.add
    by_cases hj : j = 0 <;> simp [hj]]
  rwa [Nat.zero_add] at this
/-- The document's table: a struct that holds a row of the call's own (made at w0). -/
def Rx (w0 w : World) (g : Nat) (A : Option Addr) (T : List Re) : Prop := ∃ c, w.heap[g]? = some (.cells #[.slice A T.length c] 30 (0, 0)) ∧ MineR w0 w A T.length c T
def RF (g : Nat) (A : Option Addr) (k : Nat) : Prop := k = g ∨ ∃ ad, A = some ad ∧ k = ad.block
theorem Rx.ltg {w0 w : World} {g : Nat} {A : Option Addr} {T : List Re} (h : Rx w0 w g A T) : g < w.heap.size := by
  obtain ⟨c, hg, _⟩ := h
  exact lt_of_cells hg
theorem Rx.lta {w0 w : World} {g : Nat} {A : Option Addr} {T : List Re} (h : Rx w0 w g A T) : ∀ ad, A = some ad → ad.block < w.heap.size := by
  obtain ⟨c, _, hr⟩ := h
  exact hr.1.lt
theorem Rx.keep {w0 w w' : World} {g : Nat} {A : Option Addr} {T : List Re} (h : Rx w0 w g A T) (hb : ∀ k, RF g A k → w'.heap[k]? = w.heap[k]?) : Rx w0 w' g A T := by
  obtain ⟨c, hg, hr⟩ := h
  exact ⟨c, (hb g (.inl rfl)).trans hg, hr.1.keep fun ad e => hb _ (.inr ⟨ad, e, rfl⟩), hr.2⟩
theorem Rx.below {w0 w w' : World} {g : Nat} {A : Option Addr} {T : List Re} (h : Rx w0 w g A T) (hb : Below w.heap.size w w') : Rx w0 w' g A T :=
  h.keep fun k hk => hb.block k (by
    rcases hk with rfl | ⟨ad, e, rfl⟩
    · exact h.ltg
    · exact h.lta ad e)
theorem Rx.turned {w0 w w' : World} {g b : Nat} {A : Option Addr} {T U : List Re} (h : Rx w0 w g A T) (m : MH w b U) (hb : w.grownBy w' (some b)) : Rx w0 w' g A T := by
  have h1 := h.ltg
  obtain ⟨c, hg, hr⟩ := h
  exact ⟨c, (hb.block g h1 (fun e => m.ne_cells hg (by injection e))).trans hg, hr.turned m hb⟩
/-- It reads as U behind a call. -/
def RxT (w0 w : World) (g : Nat) (A : Option Addr) (U : List Re) (w' : World) : Prop := ∃ A', Rx w0 w' g A' U ∧ Only (RF g A) w w' ∧ (A' = A ∨ ∀ ad, A' = some ad → w.heap.size ≤ ad.block)
theorem RxT.self {w0 w w' : World} {g : Nat} {A : Option Addr} {T : List Re} (h : Rx w0 w g A T) (hb : Below w.heap.size w w') : RxT w0 w g A T w' := ⟨A, h.below hb, Only.of_below _ hb, .inl rfl⟩
theorem RxT.trans {w0 w w1 w2 : World} {g : Nat} {A A' : Option Addr} {V : List Re} (h1 : Only (RF g A) w w1) (h2 : A' = A ∨ ∀ ad, A' = some ad → w.heap.size ≤ ad.block) (h : RxT w0 w1 g A' V w2) : RxT w0 w g A V w2 := by
  obtain ⟨B, k1, k2, k3⟩ := h
  refine ⟨B, k1, h1.trans k2 fun i hi => ?_, ?_⟩
  · rcases hi with rfl | ⟨ad, e, rfl⟩
    · exact .inl (.inl rfl)
    · rcases h2 with rfl | h2
      · exact .inl (.inr ⟨ad, e, rfl⟩)
      · exact .inr (h2 ad e)
  · rcases k3 with rfl | k3
    · exact h2
    · exact .inr fun ad e => Nat.le_trans h1.size (k3 ad e)
/-- The struct's row is another one, new. -/
theorem RxT.fresh {w0 w w3 : World} {g m c3 : Nat} {A : Option Addr} {T U : List Re} (h : Rx w0 w g A T) (h0 : w0.heap.size ≤ w.heap.size) (hb : Below w.heap.size w w3) {B : Option Addr} (hO : OwnR w3 38 2 B m c3 (ev U)) (hB : ∀ ad, B = some ad → w.heap.size ≤ ad.block) (hm : m = U.length) :
    RxT w0 w g A U (w3.setCell ⟨g, 0, none⟩ (.slice B m c3)) := by
  subst hm
  have hlt := h.ltg
  obtain ⟨c, hg, hr⟩ := h
  have hg3 := (hb.block g hlt).trans hg
  have e := set_cell hg3 0 (.slice B U.length c3)
  refine ⟨B, ⟨c3, e, ⟨hO.other _ fun ad ha => ?_, fun ad ha => Nat.le_trans h0 (hB ad ha)⟩⟩, (Only.of_below _ hb).setCell (.inl (.inl rfl)) _, .inr hB⟩
  have := hB ad ha
  simp only
  omega
/-- One word of it is another. -/
theorem RxT.word {w0 w u : World} {g b1 k : Nat} {p : Int} {x : Nat} {T : List Re} (h : Rx w0 w g (some ⟨b1, 0, none⟩) T) (hb : Below w.heap.size w u) (hk : k < T.length) (hp : (T.getD k re0).pos = p) :
    RxT w0 w g (some ⟨b1, 0, none⟩) (T.set k ⟨p, x⟩) (u.setCell ⟨b1, k * 2 + 1, none⟩ (.int .u64 (x : Int))) := by
  have hu := h.below hb
  obtain ⟨c, hg, hr⟩ := hu
  have hne := hr.1.apart hg (by decide) _ rfl
  refine ⟨_, ⟨c, ?_, ?_⟩, (Only.of_below _ hb).setCell (.inl (.inr ⟨_, rfl, rfl⟩)) _, .inl rfl⟩
  · rw [List.length_set]
    exact (Below.heap_setCell u ⟨b1, k * 2 + 1, none⟩ _ g (Ne.symm hne)).trans hg
  · rw [List.length_set]
    refine ⟨?_, hr.2⟩
    have := hr.1.put (v := .int .u64 (x : Int)) (k * 2 + 1)
    rw [ev_set x hk hp] at this
    exact this
section
variable {P : Program}
/-- 'append(l, m...)', m of any length. -/
theorem run_app_any (w : World) (t ty e : TypeId) (i : TypeInfo) (z : Value) (size bytes : Nat) (ht : P.underlying t = some (.slice e)) (hi : P.info? e = some i) (hz : i.zero = some z)
    (hsize : i.size = size) (hby : i.bytes = bytes) (hzs : z.cells.size = size) (g n c : Nat) (xs : List Value) (hown : OwnR w e size (some ⟨g, 0, none⟩) n c xs)
    (B : Option Addr) (m d : Nat) (news : List Value) (hl : news.length = m * size) (hB : B = none → m = 0) (hnews : ∀ a, B = some a → ∀ j u, news[j]? = some u → w.cell? (a.add j) = some u) (h1 : ∀ u ∈ news, u.oneCell' = true)
    (h63 : n + m ≤ maxLen) (hbytes : (n + m) * bytes ≤ 140737488355328) :
    ∃ g' c' w', (Builtin.append_ #[t, t] ty #[.slice (some ⟨g, 0, none⟩) n c, .slice B m d]).run P w = .ok (.slice (some ⟨g', 0, none⟩) (n + m) c') w' ∧ OwnR w' e size (some ⟨g', 0, none⟩) (n + m) c' (xs ++ news) ∧
      w.grownBy w' (some g) ∧ (g' = g ∨ g' = w.heap.size) := by
  rcases Nat.eq_zero_or_pos m with hm | hm
  · subst hm
    have hn : news = [] := by rw [Nat.zero_mul] at hl; exact List.eq_nil_of_length_eq_zero hl
    subst hn
    refine ⟨g, c, w, ?_, by rw [List.append_nil]; exact hown, grown_refl _ _, .inl rfl⟩
    have hld : ∀ a : Addr, (loadCells a 0).run P w = .ok #[] w := fun a => run_loadCells_list (P := P) w a [] (by simp)
    have hnc := hown.2.1
    cases B with
    | none => simp [Builtin.append_, run_underlying ht, sizeOf, typeInfo, hi, Builtin.lenOf, Builtin.firstCells, hld, storeCells, hnc]
    | some ad => simp [Builtin.append_, run_underlying ht, sizeOf, typeInfo, hi, Builtin.lenOf, Builtin.firstCells, hld, storeCells, hnc]
  · cases B with
    | none => have := hB rfl; omega
    | some ad =>
      obtain ⟨g', c', w', h2, h3, h4, h5⟩ := run_append_r (P := P) w t ty e i z size bytes ht hi hz hsize hby hzs _ n c xs hown ad m d news hl (hnews ad rfl) h1 hm h63 hbytes
      refine ⟨g', c', w', h2, h3, h4, h5.imp (fun h => ?_) id⟩
      injection h with h
      injection h with h
      exact h.symm
theorem wpList_app_any {w : World} {ops : Array Oper} {rest : List Oper} {o : Oper} {a : Act} {Q : Exit → Act → World → Prop} (hgd : o.guard = none) (s x : Operand) (t : TypeId)
    (ho : o.op = .call { callee := .builtin .append, args := #[s, x], argTypes := #[t, t] })
    (e : TypeId) (i : TypeInfo) (z : Value) (size bytes : Nat) (ht : P.underlying t = some (.slice e)) (hi : P.info? e = some i) (hz : i.zero = some z)
    (hsize : i.size = size) (hby : i.bytes = bytes) (hzs : z.cells.size = size) (g n c : Nat) (xs : List Value) (hs : a.eval s = .slice (some ⟨g, 0, none⟩) n c) (hown : OwnR w e size (some ⟨g, 0, none⟩) n c xs)
    (B : Option Addr) (m d : Nat) (news : List Value) (hx : a.eval x = .slice B m d) (hl : news.length = m * size) (hB : B = none → m = 0) (hnews : ∀ a, B = some a → ∀ j u, news[j]? = some u → w.cell? (a.add j) = some u) (h1 : ∀ u ∈ news, u.oneCell' = true)
    (h63 : n + m ≤ maxLen) (hbytes : (n + m) * bytes ≤ 140737488355328)
    (h : ∀ g' c' w', OwnR w' e size (some ⟨g', 0, none⟩) (n + m) c' (xs ++ news) → w.grownBy w' (some g) → (g' = g ∨ g' = w.heap.size) → wpList P ops Q rest (a.put o.dst (.slice (some ⟨g', 0, none⟩) (n + m) c')) w') : wpList P ops Q (o :: rest) a w :=
  wpList_plain hgd fun _ hK => by
    obtain ⟨g', c', w', hrun, h2, h3, h4⟩ := run_app_any (P := P) w t o.type e i z size bytes ht hi hz hsize hby hzs g n c xs hown B m d news hl hB hnews h1 h63 hbytes
    unfold Oper.wp execOp
    simp only [ho, resolve, invoke, builtin, Sem.run_bind, Sem.run_pure, Result.andThen_ok, List.map_toArray, List.map_cons, List.map_nil, hs, hx, hrun]
    exact hK _ _ (h g' c' w' h2 h3 h4)
end
end Go.Proofs.Ytphjppnkackmmaa
