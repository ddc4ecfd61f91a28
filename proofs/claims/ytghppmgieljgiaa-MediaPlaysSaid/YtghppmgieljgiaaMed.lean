/- Devices in memory: rows of any cells, footprints, what a device's blocks hold. -/
import Derived.Test.YtghppmgieljgiaaMem
import Derived.Test.YtghppmgieljgiaaOwn
import Derived.Test.YtghppmgieljgiaaMedMath
import Derived.Test.YtghppmgieljgiaaProg
namespace Go.Proofs.Ytghppmgieljgiaa
open Go.RowKit

/-- A slice at A reads as the cells xs. -/
def Cel (w : World) (A : Option Addr) (xs : List Value) : Prop :=
  0 < xs.length → ∃ ad, A = some ad ∧ ad.block < w.heap.size ∧ ∀ j u, xs[j]? = some u → w.cell? (ad.add j) = some u
section
variable {w w' : World} {A : Option Addr} {xs : List Value}
theorem Cel.below (h : Cel w A xs) (hb : Below w.heap.size w w') : Cel w' A xs := fun h0 => by
  obtain ⟨ad, e, hl, hc⟩ := h h0
  exact ⟨ad, e, Nat.lt_of_lt_of_le hl hb.size, fun j u hu => (hb.cell (p := ad.add j) (by rw [add_block]; exact hl)).trans (hc j u hu)⟩
theorem Cel.drewN (h : Cel w A xs) (n : Nat) : Cel (w.drewN n) A xs := h
theorem Cel.nil (w : World) (A : Option Addr) : Cel w A [] := fun h => absurd h (by simp)
theorem Cel.of_own {base n size : Nat} {e : TypeId} {c : Nat} (h : w.ownsRow base e size (.slice A n c) n xs) (_ : 0 < size) : Cel w A xs := fun h0 => by
  have hn : 0 < n := by
    rcases Nat.eq_zero_or_pos n with h1 | h1
    · have := h.1; rw [h1, Nat.zero_mul] at this; omega
    · exact h1
  obtain ⟨g, cap, hv, _, hlt⟩ := h.form hn
  have hA : A = some ⟨g, 0, none⟩ := by injection hv
  subst hA
  exact ⟨_, rfl, hlt, h.cells (g := g) rfl⟩
end
theorem Row.of_cel {w : World} {A : Option Addr} {l : List Nat} (h : Cel w A (wv l)) : Row w A l := fun h0 => by
  obtain ⟨ad, e, hl, hc⟩ := h (by rw [wv_length]; exact h0)
  exact ⟨ad, e, hl, fun k hk => hc k _ (wv_get l k hk)⟩

/-- Stores that wait, as cells: three each. -/
def pv : List Pn → List Value
  | [] => []
  | p :: r => .int .i64 (p.pos : Nat) :: .int .u64 (p.word : Nat) :: .bool p.fl :: pv r
theorem pv_length (L : List Pn) : (pv L).length = L.length * 3 := by
  induction L with
  | nil => rfl
  | cons p r ih => simp only [pv, List.length_cons, ih]; omega
theorem pv_append (L M : List Pn) : pv (L ++ M) = pv L ++ pv M := by
  induction L with
  | nil => rfl
  | cons p r ih => simp only [List.cons_append, pv, ih]
theorem pv_one (L : List Pn) : ∀ u ∈ pv L, u.oneCell' = true := by
  induction L with
  | nil => simp [pv]
  | cons p r ih =>
    intro u hu
    simp only [pv, List.mem_cons] at hu
    rcases hu with rfl | rfl | rfl | hu
    · rfl
    · rfl
    · rfl
    · exact ih u hu
theorem pv_get (L : List Pn) : ∀ k, k < L.length → (pv L)[k * 3]? = some (.int .i64 ((L.getD k p0).pos : Nat)) ∧ (pv L)[k * 3 + 1]? = some (.int .u64 ((L.getD k p0).word : Nat)) ∧ (pv L)[k * 3 + 2]? = some (.bool (L.getD k p0).fl) := by
  induction L with
  | nil => intro k hk; simp at hk
  | cons p r ih =>
    intro k hk
    cases k with
    | zero => exact ⟨rfl, rfl, rfl⟩
    | succ k =>
      have := ih k (by simpa using hk)
      rw [Nat.add_mul]
      exact this
theorem pv_set (L : List Pn) : ∀ (k : Nat) (p : Pn), k < L.length → pv (L.set k p) = (pv L).take (k * 3) ++ pv [p] ++ (pv L).drop ((k + 1) * 3) := by
  induction L with
  | nil => intro k p hk; simp at hk
  | cons q r ih =>
    intro k p hk
    cases k with
    | zero => rfl
    | succ k =>
      rw [List.set_cons_succ, pv, ih k p (by simpa using hk)]
      rw [show (k + 1) * 3 = k * 3 + 1 + 1 + 1 by omega, show (k + 1 + 1) * 3 = (k * 3 + 3) + 1 + 1 + 1 by omega, show (k * 3 + 1 + 1 + 1) = (k + 1) * 3 by omega]
      simp only [pv, List.drop_succ_cons]
      rw [show (k + 1) * 3 = k * 3 + 1 + 1 + 1 by omega]
      simp only [List.take_succ_cons, List.cons_append]

/-- Nothing but blocks of F, and new ones, has turned. -/
structure Only (F : Nat → Prop) (w w' : World) : Prop where
  os : w'.os = w.os
  tape : w'.tape = w.tape
  output : w'.output = w.output
  size : w.heap.size ≤ w'.heap.size
  block : ∀ k, k < w.heap.size → ¬ F k → w'.heap[k]? = w.heap[k]?
section
variable {F F' : Nat → Prop} {a b c w w' : World}
theorem Only.refl (F : Nat → Prop) (w : World) : Only F w w := ⟨rfl, rfl, rfl, Nat.le_refl _, fun _ _ _ => rfl⟩
theorem Only.trans (h : Only F a b) (k : Only F' b c) (hF : ∀ i, F' i → F i ∨ a.heap.size ≤ i) : Only F a c :=
  ⟨k.os.trans h.os, k.tape.trans h.tape, k.output.trans h.output, Nat.le_trans h.size k.size, fun i hi hn => (k.block i (Nat.lt_of_lt_of_le hi h.size) fun hf => by
    rcases hF i hf with h1 | h1
    · exact hn h1
    · omega).trans (h.block i hi hn)⟩
theorem Only.of_below (F : Nat → Prop) (h : Below w.heap.size w w') : Only F w w' := ⟨h.os, h.tape, h.output, h.size, fun i hi _ => h.block i hi⟩
theorem Only.below (h : Only F w w') {B : Nat} (hB : B ≤ w.heap.size) (hF : ∀ i, F i → B ≤ i) : Below B w w' :=
  ⟨h.os, h.tape, h.output, h.size, fun i hi => h.block i (by omega) fun hf => by have := hF i hf; omega⟩
theorem Only.drew (h : Only F a w) : Only F a w.drew := ⟨h.os, h.tape, h.output, h.size, h.block⟩
theorem Only.drewN (h : Only F a w) (n : Nat) : Only F a (w.drewN n) := ⟨h.os, h.tape, h.output, h.size, h.block⟩
theorem Only.alloc (h : Only F a w) (o : Obj) : Only F a (w.alloc o) :=
  ⟨h.os, h.tape, h.output, Nat.le_trans h.size (by simp), fun i hi hn => (Below.heap_alloc w o i (Nat.lt_of_lt_of_le hi h.size)).trans (h.block i hi hn)⟩
theorem Only.setCell (h : Only F a w) {p : Addr} (hp : F p.block ∨ a.heap.size ≤ p.block) (u : Value) : Only F a (w.setCell p u) :=
  ⟨h.os, h.tape, h.output, by simpa [World.setCell] using h.size, fun i hi hn => (Below.heap_setCell w p u i (by
    rintro rfl
    rcases hp with hp | hp
    · exact hn hp
    · omega)).trans (h.block i hi hn)⟩
theorem Only.grown (h : Only F a w) {row : Option Nat} (hg : w.grownBy w' row) (hr : ∀ k, row = some k → F k ∨ a.heap.size ≤ k) : Only F a w' :=
  ⟨hg.os.trans h.os, hg.tape.trans h.tape, hg.output.trans h.output, Nat.le_trans h.size hg.size, fun i hi hn => (hg.block i (Nat.lt_of_lt_of_le hi h.size) (fun e => by
    rcases hr i e.symm with h1 | h1
    · exact hn h1
    · omega)).trans (h.block i hi hn)⟩
end

theorem Cel.only {w w' : World} {A : Option Addr} {xs : List Value} {F : Nat → Prop} (h : Cel w A xs) (ho : Only F w w') (hF : ∀ ad, A = some ad → 0 < xs.length → ¬ F ad.block) : Cel w' A xs := fun h0 => by
  obtain ⟨ad, e, hl, hc⟩ := h h0
  exact ⟨ad, e, Nat.lt_of_lt_of_le hl ho.size, fun j u hu => (World.cell?_of_block (by rw [add_block]; exact ho.block ad.block hl (hF ad e h0))).trans (hc j u hu)⟩

/-- A row of the call's own: its first n elements read as xs; the block holds its capacity, or more. -/
def OwnR (w : World) (e : TypeId) (size : Nat) (A : Option Addr) (n c : Nat) (xs : List Value) : Prop :=
  xs.length = n * size ∧ n ≤ c ∧ c ≤ maxLen ∧ ((A = none ∧ c = 0) ∨ ∃ g cur, A = some ⟨g, 0, none⟩ ∧ w.heap[g]? = some (.cells cur e (0, 0)) ∧ c * size ≤ cur.size ∧ cur.toList.take (n * size) = xs)
section
variable {w w' : World} {e : TypeId} {size n c : Nat} {A : Option Addr} {xs : List Value}
theorem OwnR.nil (w : World) (e : TypeId) (size : Nat) : OwnR w e size none 0 0 [] := ⟨by simp, Nat.le_refl _, Nat.zero_le _, .inl ⟨rfl, rfl⟩⟩
theorem OwnR.of_own {base : Nat} {v : Value} (h : w.ownsRow base e size v n xs) : ∃ A c, v = .slice A n c ∧ OwnR w e size A n c xs ∧ ∀ ad, A = some ad → base ≤ ad.block := by
  obtain ⟨h1, h2⟩ := h
  rcases h2 with ⟨rfl, rfl⟩ | ⟨g, cap, cur, rfl, hb, hg, h3, h4, h5, h6⟩
  · exact ⟨none, 0, rfl, ⟨h1, Nat.le_refl _, Nat.zero_le _, .inl ⟨rfl, rfl⟩⟩, fun ad h => by cases h⟩
  · exact ⟨some ⟨g, 0, none⟩, cap, rfl, ⟨h1, h3, h4, .inr ⟨g, cur, rfl, hg, by omega, h6⟩⟩, fun ad h => by injection h with h; subst h; exact hb⟩
theorem OwnR.cel (h : OwnR w e size A n c xs) : Cel w A xs := fun h0 => by
  obtain ⟨h1, h2, _, h3⟩ := h
  rcases h3 with ⟨rfl, rfl⟩ | ⟨g, cur, rfl, hg, _, h4⟩
  · obtain rfl : n = 0 := by omega
    rw [Nat.zero_mul] at h1; omega
  · refine ⟨_, rfl, ?_, fun j u hu => ?_⟩
    · rcases Nat.lt_or_ge g w.heap.size with hlt | hge
      · exact hlt
      · rw [Array.getElem?_eq_none hge] at hg; cases hg
    · rw [add_zero_block, cell_of_row w g j _ e (0, 0) hg, ← hu, ← h4, List.getElem?_take_of_lt (by
        have := (List.getElem?_eq_some_iff.1 hu).1; omega), Array.getElem?_toList]
theorem OwnR.keep (h : OwnR w e size A n c xs) (hb : ∀ ad, A = some ad → w'.heap[ad.block]? = w.heap[ad.block]?) : OwnR w' e size A n c xs := by
  obtain ⟨h1, h2, h3, h4⟩ := h
  refine ⟨h1, h2, h3, ?_⟩
  rcases h4 with h4 | ⟨g, cur, rfl, hg, h5⟩
  · exact .inl h4
  · exact .inr ⟨g, cur, rfl, (hb _ rfl).trans hg, h5⟩
theorem OwnR.lt (h : OwnR w e size A n c xs) : ∀ ad, A = some ad → ad.block < w.heap.size := fun ad hA => by
  obtain ⟨_, _, _, h4⟩ := h
  rcases h4 with ⟨h4, _⟩ | ⟨g, cur, h4, hg, _⟩
  · rw [h4] at hA; cases hA
  · rw [h4] at hA; injection hA with hA; subst hA
    rcases Nat.lt_or_ge g w.heap.size with hlt | hge
    · exact hlt
    · rw [Array.getElem?_eq_none hge] at hg; cases hg
end
section
variable {P : Program} (w : World)
/-- 'append' onto such a row, of at least one element. -/
theorem run_append_r (t ty e : TypeId) (i : TypeInfo) (z : Value) (size bytes : Nat) (ht : P.underlying t = some (.slice e)) (hi : P.info? e = some i) (hz : i.zero = some z)
    (hsize : i.size = size) (hby : i.bytes = bytes) (hzs : z.cells.size = size)
    (A : Option Addr) (n c : Nat) (xs : List Value) (hown : OwnR w e size A n c xs)
    (a : Addr) (m d : Nat) (news : List Value) (hl : news.length = m * size) (hnews : ∀ j u, news[j]? = some u → w.cell? (a.add j) = some u) (h1 : ∀ u ∈ news, u.oneCell' = true)
    (hm : 0 < m) (h63 : n + m ≤ maxLen) (hbytes : (n + m) * bytes ≤ 140737488355328) :
    ∃ g c' w', (Builtin.append_ #[t, t] ty #[.slice A n c, .slice (some a) m d]).run P w = .ok (.slice (some ⟨g, 0, none⟩) (n + m) c') w' ∧ OwnR w' e size (some ⟨g, 0, none⟩) (n + m) c' (xs ++ news) ∧
      w.grownBy w' (A.map (·.block)) ∧ (A = some ⟨g, 0, none⟩ ∨ g = w.heap.size) := by
  subst hsize
  subst hby
  have hsmall : n + m ≤ 9223372036854775807 := by simp only [maxLen] at h63; omega
  obtain ⟨hx, hnc, hcm, hA⟩ := hown
  have hlen : (xs ++ news).length = (n + m) * i.size := by rw [List.length_append, hx, hl, Nat.add_mul]
  have grown : ∀ (old : Nat), old < n + m → ∀ (row : Option Nat),
      OwnR (w.drew.alloc (.cells (xs.toArray ++ news.toArray ++ Builtin.zeroCells z.cells (grownCap w (n + m) old e - (n + m))) e)) e i.size (some ⟨w.heap.size, 0, none⟩) (n + m) (grownCap w (n + m) old e) (xs ++ news) ∧
      w.grownBy (w.drew.alloc (.cells (xs.toArray ++ news.toArray ++ Builtin.zeroCells z.cells (grownCap w (n + m) old e - (n + m))) e)) row := by
    intro old ho row
    have hge := grownCap_ge w (n + m) old e
    refine ⟨⟨hlen, hge, grownCap_le_maxLen w (n + m) old e h63, .inr ⟨w.heap.size, _, rfl, heap_alloc_new w.drew _, ?_, ?_⟩⟩, ⟨rfl, rfl, rfl, by simp, fun k hk _ => Below.heap_alloc w.drew _ k hk⟩⟩
    · simp only [Array.size_append, List.size_toArray, size_zeroCells, hzs, hx, hl, ← Nat.add_mul]
      exact Nat.mul_le_mul_right _ (by omega)
    · simp only [Array.toList_append, List.append_assoc]
      rw [← List.append_assoc, ← hlen]
      exact List.take_left
  rcases hA with ⟨rfl, rfl⟩ | ⟨g, cur, rfl, hg, hcs, htake⟩
  · obtain rfl : n = 0 := by omega
    obtain rfl : xs = [] := List.eq_nil_of_length_eq_zero (by simpa using hx)
    have hr := run_append_nil (P := P) w t ty e i z ht hi hz a m d news hl hnews (by omega) (by omega) (by have hb := hbytes; simp only [Nat.zero_add] at hb; omega)
    have hgr := grown 0 (by omega) none
    simp only [Nat.zero_add, List.nil_append, Array.empty_append] at hgr ⊢
    exact ⟨_, _, _, hr, hgr.1, hgr.2, .inr rfl⟩
  · by_cases hroom : n + m ≤ c
    · have hfit : n * i.size + news.length ≤ cur.size := by rw [hl, ← Nat.add_mul]; exact Nat.le_trans (Nat.mul_le_mul_right _ hroom) hcs
      have hr := run_append_room (P := P) w t ty e i ht hi g n c cur hg a m d news hl hnews h1 hroom hfit
      refine ⟨g, _, _, hr, ⟨hlen, hroom, hcm, .inr ⟨g, _, rfl, setRow_heap w g cur _ e _ hg, ?_, ?_⟩⟩, ⟨rfl, rfl, rfl, by simp, fun k _ hk => setRow_other w g k _ (fun e => hk (by simp [e]))⟩, .inl rfl⟩
      · simp only [List.size_toArray, List.length_append, List.length_take, List.length_drop, Array.length_toList]
        omega
      · rw [htake, ← hlen]
        exact List.take_left
    · have holds : ∀ j u, xs[j]? = some u → w.cell? ((⟨g, 0, none⟩ : Addr).add j) = some u := fun j u hu => by
        rw [add_zero_block, cell_of_row w g j _ e (0, 0) hg, ← hu, ← htake, List.getElem?_take_of_lt (by
          have := (List.getElem?_eq_some_iff.1 hu).1; omega), Array.getElem?_toList]
      have hr := run_append_grow (P := P) w t ty e i z ht hi hz ⟨g, 0, none⟩ n c xs hx holds a m d news hl hnews (by omega) (by omega) (growslice_fits (by omega) hbytes)
      have hgr := grown c (by omega) (some g)
      exact ⟨_, _, _, hr, hgr.1, hgr.2, .inr rfl⟩
/-- 'append' of one element into a block whose elements are known beyond the slice's length. -/
theorem run_append_in (t ty e : TypeId) (i : TypeInfo) (ht : P.underlying t = some (.slice e)) (hi : P.info? e = some i) (hsize : i.size = 3)
    (g j n : Nat) (cur : Array Value) (M : List Pn) (p : Pn) (hg : w.heap[g]? = some (.cells cur e (0, 0))) (hM : M.length = n) (hcs : n * 3 ≤ cur.size) (hcur : cur.toList.take (n * 3) = pv M) (hj : j < n)
    (a : Addr) (d : Nat) (hnews : ∀ j u, (pv [p])[j]? = some u → w.cell? (a.add j) = some u) :
    ∃ cur' w', (Builtin.append_ #[t, t] ty #[.slice (some ⟨g, 0, none⟩) j n, .slice (some a) 1 d]).run P w = .ok (.slice (some ⟨g, 0, none⟩) (j + 1) n) w' ∧ w'.heap[g]? = some (.cells cur' e (0, 0)) ∧ n * 3 ≤ cur'.size ∧
      cur'.toList.take (n * 3) = pv (M.set j p) ∧ w.grownBy w' (some g) := by
  have hr := run_append_room (P := P) w t ty e i ht hi g j n cur hg a 1 d (pv [p]) (by rw [hsize]; rfl) hnews (pv_one _) (by omega) (by rw [hsize]; show j * 3 + 3 ≤ _; omega)
  rw [hsize] at hr
  refine ⟨_, _, hr, setRow_heap w g cur _ e _ hg, ?_, ?_, ⟨rfl, rfl, rfl, by simp, fun k _ hk => setRow_other w g k _ (fun e => hk (by simp [e]))⟩⟩
  · simp only [List.size_toArray, List.length_append, List.length_take, List.length_drop, Array.length_toList]
    omega
  · rw [pv_set M j p (by omega), ← hcur]
    show ((cur.toList.take (j * 3) ++ pv [p]) ++ cur.toList.drop (j * 3 + 3)).take (n * 3) = _
    have h3 : (pv [p]).length = 3 := rfl
    rw [List.take_append, List.take_of_length_le (by rw [List.length_append, List.length_take, h3, Array.length_toList]; omega)]
    rw [List.take_take, Nat.min_eq_left (by omega), List.drop_take, List.length_append, List.length_take, h3, Array.length_toList]
    rw [show (j + 1) * 3 = j * 3 + 3 by omega, Nat.min_eq_left (by omega)]
end

section
variable {P : Program} {w : World}
theorem wpList_append_in {ops : Array Oper} {rest : List Oper} {o : Oper} {a : Act} {Q : Exit → Act → World → Prop} (hgd : o.guard = none) (s x : Operand) (t : TypeId)
    (ho : o.op = .call { callee := .builtin .append, args := #[s, x], argTypes := #[t, t] })
    (e : TypeId) (i : TypeInfo) (ht : P.underlying t = some (.slice e)) (hi : P.info? e = some i) (hsize : i.size = 3)
    (g j n : Nat) (cur : Array Value) (M : List Pn) (p : Pn) (hg : w.heap[g]? = some (.cells cur e (0, 0))) (hM : M.length = n) (hcs : n * 3 ≤ cur.size) (hcur : cur.toList.take (n * 3) = pv M) (hj : j < n)
    (ad : Addr) (d : Nat) (hs : a.eval s = .slice (some ⟨g, 0, none⟩) j n) (hx : a.eval x = .slice (some ad) 1 d) (hnews : ∀ j u, (pv [p])[j]? = some u → w.cell? (ad.add j) = some u)
    (h : ∀ cur' w', w'.heap[g]? = some (.cells cur' e (0, 0)) → n * 3 ≤ cur'.size → cur'.toList.take (n * 3) = pv (M.set j p) → w.grownBy w' (some g) → wpList P ops Q rest (a.put o.dst (.slice (some ⟨g, 0, none⟩) (j + 1) n)) w') : wpList P ops Q (o :: rest) a w :=
  wpList_plain hgd fun _ hK => by
    obtain ⟨cur', w', hrun, h2, h3, h4, h5⟩ := run_append_in (P := P) w t o.type e i ht hi hsize g j n cur M p hg hM hcs hcur hj ad d hnews
    unfold Oper.wp execOp
    simp only [ho, resolve, invoke, builtin, Sem.run_bind, Sem.run_pure, Result.andThen_ok, List.map_toArray, List.map_cons, List.map_nil, hs, hx, hrun]
    exact hK _ _ (h cur' w' h2 h3 h4 h5)
theorem wpList_append_r {ops : Array Oper} {rest : List Oper} {o : Oper} {a : Act} {Q : Exit → Act → World → Prop} (hgd : o.guard = none) (s x : Operand) (t : TypeId)
    (ho : o.op = .call { callee := .builtin .append, args := #[s, x], argTypes := #[t, t] })
    (e : TypeId) (i : TypeInfo) (z : Value) (size bytes : Nat) (ht : P.underlying t = some (.slice e)) (hi : P.info? e = some i) (hz : i.zero = some z)
    (hsize : i.size = size) (hby : i.bytes = bytes) (hzs : z.cells.size = size)
    (A : Option Addr) (n c : Nat) (xs : List Value) (hs : a.eval s = .slice A n c) (hown : OwnR w e size A n c xs)
    (ad : Addr) (m d : Nat) (news : List Value) (hx : a.eval x = .slice (some ad) m d) (hl : news.length = m * size) (hnews : ∀ j u, news[j]? = some u → w.cell? (ad.add j) = some u) (h1 : ∀ u ∈ news, u.oneCell' = true)
    (hm : 0 < m) (h63 : n + m ≤ maxLen) (hbytes : (n + m) * bytes ≤ 140737488355328)
    (h : ∀ g c' w', OwnR w' e size (some ⟨g, 0, none⟩) (n + m) c' (xs ++ news) → w.grownBy w' (A.map (·.block)) → (A = some ⟨g, 0, none⟩ ∨ g = w.heap.size) → wpList P ops Q rest (a.put o.dst (.slice (some ⟨g, 0, none⟩) (n + m) c')) w') : wpList P ops Q (o :: rest) a w :=
  wpList_plain hgd fun _ hK => by
    obtain ⟨g, c', w', hrun, h2, h3, h4⟩ := run_append_r (P := P) w t o.type e i z size bytes ht hi hz hsize hby hzs A n c xs hown ad m d news hl hnews h1 hm h63 hbytes
    unfold Oper.wp execOp
    simp only [ho, resolve, invoke, builtin, Sem.run_bind, Sem.run_pure, Result.andThen_ok, List.map_toArray, List.map_cons, List.map_nil, hs, hx, hrun]
    exact hK _ _ (h g c' w' h2 h3 h4)
/-- The cells of a store that was just laid down as a block of its own. -/
theorem cells_one {w0 : World} {B : Nat} (p : Pn) (t : TypeId) (hw : w0.heap[B]? = some (.cells #[.int .i64 (p.pos : Nat), .int .u64 (p.word : Nat), .bool p.fl] t (0, 0))) :
    ∀ j u, (pv [p])[j]? = some u → w0.cell? ((⟨B, 0, none⟩ : Addr).add j) = some u := by
  intro j u hu
  rw [add_zero_block, cell_of_row w0 B j _ t (0, 0) hw, ← hu, List.getElem?_toArray]
  rfl
theorem three_cells {w0 : World} {B : Nat} {x y z : Value} {t : TypeId} (hw : w0.heap[B]? = some (.cells #[x, y, z] t (0, 0))) :
    w0.cell? ⟨B, 0, none⟩ = some x ∧ w0.cell? ⟨B, 1, none⟩ = some y ∧ w0.cell? ⟨B, 2, none⟩ = some z :=
  ⟨cell_of_row w0 B 0 _ t (0, 0) hw, cell_of_row w0 B 1 _ t (0, 0) hw, cell_of_row w0 B 2 _ t (0, 0) hw⟩
theorem alloc_later {w0 w1 : World} {o : Obj} (hb : Below (w0.alloc o).heap.size (w0.alloc o) w1) : w1.heap[w0.heap.size]? = some o :=
  (hb.block _ (by simp)).trans (heap_alloc_new w0 o)
theorem below_alloc {w0 w1 : World} {o : Obj} (hb : Below (w0.alloc o).heap.size (w0.alloc o) w1) : Below w0.heap.size w0 w1 :=
  ((Below.refl _ _).alloc (Nat.le_refl _) o).trans (hb.mono (by simp))
end

/-- A device's blocks (T, U, E: the numbers of the device's type, of uint64, of a waiting store). -/
structure DevC (w : World) (g gk ck gs cs : Nat) (A : Option Addr) (cp : Nat) (K S : List Nat) (L : List Pn) : Prop where
  hg : w.heap[g]? = some (.cells #[.slice (some ⟨gk, 0, none⟩) K.length ck, .slice (some ⟨gs, 0, none⟩) S.length cs, .slice A L.length cp] 66 (0, 0))
  hk : Blkp 32 w gk K
  hs : Blkp 32 w gs S
  hp : OwnR w 61 3 A L.length cp (pv L)
  ne : gk ≠ gs
  kc : K.length ≤ ck
  sc : S.length ≤ cs
/-- A device at g whose blocks are among F. -/
def Dev (w : World) (g : Nat) (F : Nat → Prop) (K S : List Nat) (L : List Pn) : Prop :=
  ∃ gk ck gs cs A cp, DevC w g gk ck gs cs A cp K S L ∧ F g ∧ F gk ∧ F gs ∧ (∀ ad, A = some ad → F ad.block) ∧ ∀ i, F i → i < w.heap.size
section
variable {w w' : World} {g gk ck gs cs cp : Nat} {A : Option Addr} {K S : List Nat} {L : List Pn} {F : Nat → Prop}
theorem cells_type {o o' : Array Value} {e e' : TypeId} {f f' : Nat × Nat} {i j : Nat} (h : w.heap[i]? = some (.cells o e f)) (h' : w.heap[j]? = some (.cells o' e' f')) (hne : e ≠ e') : i ≠ j := by
  rintro rfl
  rw [h] at h'
  injection h' with h'
  injection h' with _ h2
  exact hne h2
theorem lt_of_cells {o : Array Value} {e : TypeId} {f : Nat × Nat} {i : Nat} (h : w.heap[i]? = some (.cells o e f)) : i < w.heap.size := by
  rcases Nat.lt_or_ge i w.heap.size with hlt | hge
  · exact hlt
  · rw [Array.getElem?_eq_none hge] at h; cases h
theorem DevC.gk_ne (h : DevC w g gk ck gs cs A cp K S L) : g ≠ gk := by
  obtain ⟨cur, hc, _⟩ := h.hk
  exact cells_type h.hg hc (by decide)
theorem DevC.gs_ne (h : DevC w g gk ck gs cs A cp K S L) : g ≠ gs := by
  obtain ⟨cur, hc, _⟩ := h.hs
  exact cells_type h.hg hc (by decide)
theorem DevC.gp_ne {ad : Addr} (h : DevC w g gk ck gs cs (some ad) cp K S L) : g ≠ ad.block ∧ gk ≠ ad.block ∧ gs ≠ ad.block := by
  obtain ⟨_, _, _, h3⟩ := h.hp
  rcases h3 with ⟨h3, _⟩ | ⟨gp, cur, h3, hc, _⟩
  · cases h3
  · injection h3 with h3
    subst h3
    obtain ⟨c1, h1, _⟩ := h.hk
    obtain ⟨c2, h2, _⟩ := h.hs
    exact ⟨cells_type h.hg hc (by decide), cells_type h1 hc (by decide), cells_type h2 hc (by decide)⟩
theorem DevC.pc (h : DevC w g gk ck gs cs A cp K S L) : L.length ≤ cp := h.hp.2.1
theorem DevC.pm (h : DevC w g gk ck gs cs A cp K S L) : cp ≤ maxLen := h.hp.2.2.1
theorem DevC.c0 (h : DevC w g gk ck gs cs A cp K S L) : w.cell? ⟨g, 0, none⟩ = some (.slice (some ⟨gk, 0, none⟩) K.length ck) := cell_of_row w g 0 _ _ (0, 0) h.hg
theorem DevC.c1 (h : DevC w g gk ck gs cs A cp K S L) : w.cell? ⟨g, 1, none⟩ = some (.slice (some ⟨gs, 0, none⟩) S.length cs) := cell_of_row w g 1 _ _ (0, 0) h.hg
theorem DevC.c2 (h : DevC w g gk ck gs cs A cp K S L) : w.cell? ⟨g, 2, none⟩ = some (.slice A L.length cp) := cell_of_row w g 2 _ _ (0, 0) h.hg
theorem DevC.f (h : DevC w g gk ck gs cs A cp K S L) (i : Nat) : w.frozen? ⟨g, i, none⟩ = false := frozen_of_row w g i _ _ h.hg
/-- What nobody turned in the blocks of a device leaves it. -/
theorem DevC.keep (h : DevC w g gk ck gs cs A cp K S L) (hb : ∀ i, (i = g ∨ i = gk ∨ i = gs ∨ ∃ ad, A = some ad ∧ i = ad.block) → w'.heap[i]? = w.heap[i]?) : DevC w' g gk ck gs cs A cp K S L := by
  refine ⟨(hb g (.inl rfl)).trans h.hg, ?_, ?_, ?_, h.ne, h.kc, h.sc⟩
  · obtain ⟨cur, hc, ht⟩ := h.hk
    exact ⟨cur, (hb gk (.inr (.inl rfl))).trans hc, ht⟩
  · obtain ⟨cur, hc, ht⟩ := h.hs
    exact ⟨cur, (hb gs (.inr (.inr (.inl rfl)))).trans hc, ht⟩
  · exact h.hp.keep fun ad hA => hb _ (.inr (.inr (.inr ⟨ad, hA, rfl⟩)))
theorem Dev.keep (h : Dev w g F K S L) (hb : ∀ i, F i → w'.heap[i]? = w.heap[i]?) (hs : w.heap.size ≤ w'.heap.size) : Dev w' g F K S L := by
  obtain ⟨gk, ck, gs, cs, A, cp, hd, f1, f2, f3, f4, f5⟩ := h
  refine ⟨gk, ck, gs, cs, A, cp, hd.keep fun i hi => hb i ?_, f1, f2, f3, f4, fun i hi => Nat.lt_of_lt_of_le (f5 i hi) hs⟩
  rcases hi with rfl | rfl | rfl | ⟨ad, e, rfl⟩
  · exact f1
  · exact f2
  · exact f3
  · exact f4 ad e
theorem Dev.below (h : Dev w g F K S L) (hb : Below w.heap.size w w') : Dev w' g F K S L :=
  h.keep (fun i hi => hb.block i (by obtain ⟨_, _, _, _, _, _, _, _, _, _, _, h5⟩ := h; exact h5 i hi)) hb.size
theorem Dev.drewN (h : Dev w g F K S L) (n : Nat) : Dev (w.drewN n) g F K S L := h.keep (fun _ _ => rfl) (Nat.le_refl _)
theorem Dev.lt (h : Dev w g F K S L) : ∀ i, F i → i < w.heap.size := by
  obtain ⟨_, _, _, _, _, _, _, _, _, _, _, h5⟩ := h; exact h5
/-- A store was appended, and the row stored back. -/
theorem DevC.pushed (h : DevC w g gk ck gs cs A cp K S L) (p : Pn) {o : Obj} {w1 : World} {g' c' : Nat} (hown : OwnR w1 61 3 (some ⟨g', 0, none⟩) (L.length + 1) c' (pv L ++ pv [p]))
    (hgr : (w.alloc o).grownBy w1 (A.map (·.block))) :
    DevC (w1.setCell ⟨g, 2, none⟩ (.slice (some ⟨g', 0, none⟩) (L.length + 1) c')) g gk ck gs cs (some ⟨g', 0, none⟩) c' K S (L ++ [p]) := by
  have old : ∀ i, i < w.heap.size → (∀ ad, A = some ad → i ≠ ad.block) → w1.heap[i]? = w.heap[i]? := fun i hi hn =>
    (hgr.block i (by simp; omega) fun e => by
      rcases A with _ | ad
      · cases e
      · injection e with e
        exact hn ad rfl e).trans (Below.heap_alloc _ _ _ hi)
  have n0 : ∀ ad, A = some ad → g ≠ ad.block := fun ad e => by subst e; exact h.gp_ne.1
  have n1 : ∀ ad, A = some ad → gk ≠ ad.block := fun ad e => by subst e; exact h.gp_ne.2.1
  have n2 : ∀ ad, A = some ad → gs ≠ ad.block := fun ad e => by subst e; exact h.gp_ne.2.2
  have hg1 := (old g (lt_of_cells h.hg) n0).trans h.hg
  refine ⟨?_, ?_, ?_, ?_, h.ne, h.kc, h.sc⟩
  · rw [heap_setCell_same _ _ _ _ _ _ hg1, List.length_append]
    rfl
  · obtain ⟨c, hc, ht⟩ := h.hk
    exact ⟨c, (Below.heap_setCell _ _ _ _ (Ne.symm h.gk_ne)).trans ((old gk h.hk.lt n1).trans hc), ht⟩
  · obtain ⟨c, hc, ht⟩ := h.hs
    exact ⟨c, (Below.heap_setCell _ _ _ _ (Ne.symm h.gs_ne)).trans ((old gs h.hs.lt n2).trans hc), ht⟩
  · rw [pv_append, List.length_append]
    refine hown.keep fun ad e => Below.heap_setCell _ _ _ _ ?_
    obtain ⟨_, _, _, h4⟩ := hown
    rcases h4 with ⟨h4, _⟩ | ⟨gp, cur, h4, hc, _⟩
    · cases h4
    · injection h4 with h4
      injection e with e
      subst e
      injection h4 with h4
      subst h4
      exact (cells_type (w := w1) hc hg1 (by decide))
theorem DevC.pushed_old (h : DevC w g gk ck gs cs A cp K S L) {o : Obj} {w1 : World} (hgr : (w.alloc o).grownBy w1 (A.map (·.block))) :
    w1.cell? ⟨g, 2, none⟩ = some (.slice A L.length cp) ∧ w1.frozen? ⟨g, 2, none⟩ = false ∧ w1.cell? ⟨g, 1, none⟩ = some (.slice (some ⟨gs, 0, none⟩) S.length cs) ∧ Blkp 32 w1 gs S := by
  have old : ∀ i, i < w.heap.size → (∀ ad, A = some ad → i ≠ ad.block) → w1.heap[i]? = w.heap[i]? := fun i hi hn =>
    (hgr.block i (by simp; omega) fun e => by
      rcases A with _ | ad
      · cases e
      · injection e with e
        exact hn ad rfl e).trans (Below.heap_alloc _ _ _ hi)
  have e := (old g (lt_of_cells h.hg) fun ad e => by subst e; exact h.gp_ne.1).trans h.hg
  refine ⟨cell_of_row w1 g 2 _ _ (0, 0) e, frozen_of_row w1 g 2 _ _ e, cell_of_row w1 g 1 _ _ (0, 0) e, ?_⟩
  obtain ⟨c, hc, ht⟩ := h.hs
  exact ⟨c, (old gs h.hs.lt fun ad e => by subst e; exact h.gp_ne.2.2).trans hc, ht⟩
/-- One value turned. -/
theorem DevC.seen_set (h : DevC w g gk ck gs cs A cp K S L) (a v : Nat) : DevC (w.setCell ⟨gs, a, none⟩ (.int .u64 (v : Nat))) g gk ck gs cs A cp K (S.set a v) L := by
  refine ⟨?_, ?_, h.hs.set a v, ?_, h.ne, h.kc, by rw [List.length_set]; exact h.sc⟩
  · rw [List.length_set]
    exact (Below.heap_setCell _ _ _ _ h.gs_ne).trans h.hg
  · obtain ⟨c, hc, ht⟩ := h.hk
    exact ⟨c, (Below.heap_setCell _ _ _ _ h.ne).trans hc, ht⟩
  · refine h.hp.keep fun ad e => Below.heap_setCell _ _ _ _ ?_
    subst e
    exact Ne.symm h.gp_ne.2.2
/-- The row that waits is taken away. -/
theorem DevC.emptied (h : DevC w g gk ck gs cs A cp K S L) : DevC (w.setCell ⟨g, 2, none⟩ (.slice none 0 0)) g gk ck gs cs none 0 K S [] := by
  refine ⟨?_, ?_, ?_, OwnR.nil _ _ _, h.ne, h.kc, h.sc⟩
  · rw [heap_setCell_same _ _ _ _ _ _ h.hg]
    rfl
  · obtain ⟨c, hc, ht⟩ := h.hk
    exact ⟨c, (Below.heap_setCell _ _ _ _ (Ne.symm h.gk_ne)).trans hc, ht⟩
  · obtain ⟨c, hc, ht⟩ := h.hs
    exact ⟨c, (Below.heap_setCell _ _ _ _ (Ne.symm h.gs_ne)).trans hc, ht⟩
/-- The values are what is kept again. -/
theorem DevC.copied (h : DevC w g gk ck gs cs none 0 K S []) (hl : S.length = K.length) {cur : Array Value} (hc : w.heap[gs]? = some (.cells cur 32 (0, 0))) :
    DevC (w.setRow gs (cur.toList.take 0 ++ (wv K ++ cur.toList.drop (0 + (wv K).length))).toArray) g gk ck gs cs none 0 K K [] := by
  refine ⟨?_, ?_, ?_, OwnR.nil _ _ _, h.ne, h.kc, by rw [← hl]; exact h.sc⟩
  · have hg := h.hg
    rw [hl] at hg
    exact (setRow_other _ _ _ _ h.gs_ne).trans hg
  · obtain ⟨c, hc, ht⟩ := h.hk
    exact ⟨c, (setRow_other _ _ _ _ h.ne).trans hc, ht⟩
  · refine ⟨_, setRow_heap _ _ _ _ _ _ hc, ?_⟩
    simp only [List.take_zero, List.nil_append]
    rw [← wv_length K]
    exact List.take_left
theorem Only.setRow {F : Nat → Prop} {a w : World} (h : Only F a w) {g : Nat} (hg : F g) (cs : Array Value) : Only F a (w.setRow g cs) :=
  ⟨h.os, h.tape, h.output, by simpa using h.size, fun i hi hn => (setRow_other w g i cs fun e => hn (by rw [e]; exact hg)).trans (h.block i hi hn)⟩
/-- What another one's doing leaves of a device. -/
theorem Dev.other {F' : Nat → Prop} (h : Dev w g F K S L) (ho : Only F' w w') (hd : ∀ i, F i → ¬ F' i) : Dev w' g F K S L :=
  h.keep (fun i hi => ho.block i (h.lt i hi) (hd i hi)) ho.size
end
end Go.Proofs.Ytghppmgieljgiaa
