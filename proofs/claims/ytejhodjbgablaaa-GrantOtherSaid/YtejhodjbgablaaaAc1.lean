/- Access lists as values and as blocks; rows of named ones; copies of them. -/
import Derived.Test.YtejhodjbgablaaaProg
import Derived.Test.YtejhodjbgablaaaCel
import Derived.WalkKit
import Derived.WalkSpells
import Derived.WalkLawsBesides
import Derived.Lib.Hide
import Derived.Deep.QuietTactic
import Derived.BigQuiet
import Derived.Outline
set_option linter.unusedSimpArgs false
set_option linter.unusedVariables false
namespace Go.Proofs.Ytejhodjbgablaaa
open Go.RowKit
/-- A named one. -/
structure Nm where
  id : Nat
  pm : Nat
/-- As cells. -/
def nv : List Nm → List Value
  | [] => []
  | p :: r => .int .u16 (p.id : Nat) :: .int .u8 (p.pm : Nat) :: nv r
theorem nv_length (L : List Nm) : (nv L).length = L.length * 2 := by
  induction L with
  | nil => rfl
  | cons p r ih => simp only [nv, List.length_cons, ih]; omega
theorem nv_one (L : List Nm) : ∀ u ∈ nv L, u.oneCell' = true := by
  induction L with
  | nil => simp [nv]
  | cons p r ih =>
    intro u hu
    simp only [nv, List.mem_cons] at hu
    rcases hu with rfl | rfl | hu
    · rfl
    · rfl
    · exact ih u hu
theorem nv_get {L : List Nm} : ∀ {k : Nat} {p : Nm}, L[k]? = some p → (nv L)[k * 2]? = some (.int .u16 (p.id : Nat)) ∧ (nv L)[k * 2 + 1]? = some (.int .u8 (p.pm : Nat)) := by
  induction L with
  | nil => intro k p h; simp at h
  | cons q r ih =>
    intro k p h
    cases k with
    | zero =>
      simp only [List.getElem?_cons_zero, Option.some.injEq] at h
      subst h
      exact ⟨rfl, rfl⟩
    | succ k =>
      rw [List.getElem?_cons_succ] at h
      obtain ⟨h1, h2⟩ := ih h
      rw [show (k + 1) * 2 = k * 2 + 1 + 1 by omega, show k * 2 + 1 + 1 + 1 = k * 2 + 1 + 1 + 1 from rfl]
      simp only [nv, List.getElem?_cons_succ]
      exact ⟨h1, h2⟩
theorem nv_setId (L : List Nm) : ∀ {k : Nat} {p : Nm} (n : Nat), L[k]? = some p → nv (L.set k ⟨n, p.pm⟩) = (nv L).set (k * 2) (.int .u16 (n : Nat)) := by
  induction L with
  | nil => intro k p n h; simp at h
  | cons q r ih =>
    intro k p n h
    cases k with
    | zero =>
      simp only [List.getElem?_cons_zero, Option.some.injEq] at h
      subst h
      rfl
    | succ k =>
      rw [List.getElem?_cons_succ] at h
      rw [show (k + 1) * 2 = k * 2 + 1 + 1 by omega, List.set_cons_succ]
      simp only [nv, List.set_cons_succ]
      rw [ih n h]
theorem nv_setPm (L : List Nm) : ∀ {k : Nat} {p : Nm} (n : Nat), L[k]? = some p → nv (L.set k ⟨p.id, n⟩) = (nv L).set (k * 2 + 1) (.int .u8 (n : Nat)) := by
  induction L with
  | nil => intro k p n h; simp at h
  | cons q r ih =>
    intro k p n h
    cases k with
    | zero =>
      simp only [List.getElem?_cons_zero, Option.some.injEq] at h
      subst h
      rfl
    | succ k =>
      rw [List.getElem?_cons_succ] at h
      rw [show (k + 1) * 2 + 1 = k * 2 + 1 + 1 + 1 by omega, List.set_cons_succ]
      simp only [nv, List.set_cons_succ]
      rw [ih n h]
/-- A list. -/
structure Ac where
  ow : Nat
  gr : Nat
  ot : Nat
  us : List Nm
  gs : List Nm
  hm : Bool
  ms : Nat
/-- Its cells, its value; where its rows lie. -/
structure Lie where
  A : Option Addr
  c : Nat
  B : Option Addr
  d : Nat
abbrev Ac.c (x : Ac) (p : Lie) : Array Value := #[.int .u8 (x.ow : Nat), .int .u8 (x.gr : Nat), .int .u8 (x.ot : Nat), .slice p.A x.us.length p.c, .slice p.B x.gs.length p.d, .bool x.hm, .int .u8 (x.ms : Nat)]
abbrev Ac.v (x : Ac) (p : Lie) : Value := .agg (x.c p)
/-- Its rows, in memory. -/
structure Lies (w : World) (x : Ac) (p : Lie) : Prop where
  us : Cel w p.A (nv x.us)
  gs : Cel w p.B (nv x.gs)
theorem Lies.below {w w' : World} {x : Ac} {p : Lie} (h : Lies w x p) (hb : Below w.heap.size w w') : Lies w' x p := ⟨h.us.below hb, h.gs.below hb⟩
theorem Lies.drewN {w : World} {x : Ac} {p : Lie} (h : Lies w x p) (n : Nat) : Lies (w.drewN n) x p := ⟨h.us, h.gs⟩
/-- Small enough. -/
structure Sm (x : Ac) : Prop where
  us : x.us.length ≤ 1099511627776
  gs : x.gs.length ≤ 1099511627776
/-- A block of a list. -/
def Ab (w : World) (b : Nat) (x : Ac) (p : Lie) : Prop := w.heap[b]? = some (.cells (x.c p) 28 (0, 0))
section
variable {w w' : World} {b : Nat} {x : Ac} {p : Lie}
theorem Ab.new (w : World) (x : Ac) (p : Lie) : Ab (w.alloc (.cells (x.c p) 28)) w.heap.size x p := heap_alloc_new w _
theorem Ab.lt (h : Ab w b x p) : b < w.heap.size := lt_of_cells h
theorem Ab.below {k : Nat} (h : Ab w b x p) (hb : Below k w w') (hk : b < k) : Ab w' b x p := (hb.block b hk).trans h
theorem Ab.on (h : Ab w b x p) (hb : Below w.heap.size w w') : Ab w' b x p := h.below hb h.lt
theorem Ab.cell (h : Ab w b x p) (k : Nat) : w.cell? ⟨b, k, none⟩ = (x.c p)[k]? := by
  unfold Ab at h
  simp [World.cell?, h]
theorem Ab.frozen (h : Ab w b x p) (k : Nat) : w.frozen? ⟨b, k, none⟩ = false := by
  unfold Ab at h
  simp [World.frozen?, h]
theorem Ab.cells (h : Ab w b x p) : w.cell? ⟨b, 0, none⟩ = some (.int .u8 (x.ow : Nat)) ∧ w.cell? ⟨b, 1, none⟩ = some (.int .u8 (x.gr : Nat)) ∧ w.cell? ⟨b, 2, none⟩ = some (.int .u8 (x.ot : Nat)) ∧ w.cell? ⟨b, 3, none⟩ = some (.slice p.A x.us.length p.c) ∧
    w.cell? ⟨b, 4, none⟩ = some (.slice p.B x.gs.length p.d) ∧ w.cell? ⟨b, 5, none⟩ = some (.bool x.hm) ∧ w.cell? ⟨b, 6, none⟩ = some (.int .u8 (x.ms : Nat)) :=
  ⟨h.cell 0, h.cell 1, h.cell 2, h.cell 3, h.cell 4, h.cell 5, h.cell 6⟩
end
theorem info_parts {P : Program} {t : TypeId} {z : Value} {s b : Nat} (h : (P.info? t).map (fun i => (i.zero, i.size, i.bytes)) = some (some z, s, b)) : ∃ i, P.info? t = some i ∧ i.zero = some z ∧ i.size = s ∧ i.bytes = b := by
  cases hi : P.info? t with
  | none => rw [hi] at h; cases h
  | some i =>
    rw [hi] at h
    injection h with h
    injection h with h1 h
    injection h with h2 h3
    exact ⟨i, rfl, h1, h2, h3⟩
theorem named_info : (Try.prog.info? 43).map (fun i => (i.zero, i.size, i.bytes)) = some (some (.agg #[.int .u16 0, .int .u8 0]), 2, 4) := by kernel_rfl
/-- A row of the call's own (made at w). -/
def Mine (w w' : World) (A : Option Addr) (n c : Nat) (L : List Nm) : Prop := OwnR w' 43 2 A n c (nv L) ∧ ∀ ad, A = some ad → w.heap.size ≤ ad.block
theorem Mine.cel {w w' : World} {A : Option Addr} {n c : Nat} {L : List Nm} (h : Mine w w' A n c L) : Cel w' A (nv L) := h.1.cel
set_option maxRecDepth 100000 in
/-- 'append(nil, l...)'. -/
theorem run_ncl (A : Option Addr) (L : List Nm) (c : Nat) (w : World) (ty : TypeId) (hc : Cel w A (nv L)) (hl : L.length ≤ 1099511627776) :
    ∃ B cB w', (Builtin.append_ #[26, 26] ty #[.slice none 0 0, .slice A L.length c]).run Try.prog w = .ok (.slice B L.length cB) w' ∧ Mine w w' B L.length cB L ∧ Below w.heap.size w w' := by
  obtain ⟨i0, hi, hz0, hz1, hz2⟩ := info_parts named_info
  rcases A with _ | ad
  · have h0 : L = [] := by
      cases L with
      | nil => rfl
      | cons x r => obtain ⟨ad, h, _⟩ := hc (by rw [nv_length]; simp); cases h
    subst h0
    refine ⟨none, 0, w, ?_, ⟨OwnR.nil _ _ _, fun ad h => by cases h⟩, Below.refl _ _⟩
    simp [Builtin.append_, run_underlying Try.underlying26, sizeOf, typeInfo, hi, Builtin.lenOf, Builtin.firstCells]
  · have hcell : ∀ j u, (nv L)[j]? = some u → w.cell? (ad.add j) = some u := by
      intro j u hu
      obtain ⟨ad', h, _, hcc⟩ := hc (by have := (List.getElem?_eq_some_iff.1 hu).1; omega)
      injection h with h
      subst h
      exact hcc j u hu
    obtain ⟨v', w', hrun, h2, h3, _⟩ := run_append_own (P := Try.prog) w w.heap.size 26 ty 43 i0 (.agg #[.int .u16 0, .int .u8 0]) 2 4 Try.underlying26 hi hz0 hz1 hz2 rfl (by decide) (.slice none 0 0) 0 [] (World.ownsRow_nil _ _ _ _) ad L.length c (nv L) (nv_length L) hcell (nv_one L) (by unfold maxLen; omega) (by omega) (Nat.le_refl _)
    simp only [Nat.zero_add, List.nil_append] at hrun h2
    obtain ⟨B, cB, rfl, hO, hb⟩ := OwnR.of_own h2
    exact ⟨B, cB, w', hrun, ⟨hO, hb⟩, (Below.refl _ _).grown h3 (Nat.le_refl _) (fun k hk => by simp [Value.ownBlock] at hk)⟩
theorem wpList_ncl {w : World} {ops : Array Oper} {rest : List Oper} {o : Oper} {a : Act} {Q : Exit → Act → World → Prop} (hgd : o.guard = none) (s x : Operand)
    (ho : o.op = .call { callee := .builtin .append, args := #[s, x], argTypes := #[26, 26] })
    (A : Option Addr) (L : List Nm) (c : Nat) (hs : a.eval s = .slice none 0 0) (hx : a.eval x = .slice A L.length c) (hr : Cel w A (nv L)) (hlen : L.length ≤ 1099511627776)
    (h : ∀ B cB w', Mine w w' B L.length cB L → Below w.heap.size w w' → wpList Try.prog ops Q rest (a.put o.dst (.slice B L.length cB)) w') : wpList Try.prog ops Q (o :: rest) a w :=
  wpList_plain hgd fun _ hK => by
    obtain ⟨B, cB, w', hrun, h2, h3⟩ := run_ncl A L c w o.type hr hlen
    unfold Oper.wp execOp
    simp only [ho, resolve, invoke, builtin, Sem.run_bind, Sem.run_pure, Result.andThen_ok, List.map_toArray, List.map_cons, List.map_nil, hs, hx, hrun]
    exact hK _ _ (h B cB w' h2 h3)
section
variable {P : Program} {w : World}
/-- 'append(S{}, s...)', an empty row of the call's own (block g0) ahead of it: a row of the call's own that reads as s. -/
theorem run_clone_r (t ty e : TypeId) (i : TypeInfo) (z : Value) (size bytes : Nat) (ht : P.underlying t = some (.slice e)) (hi : P.info? e = some i) (hz : i.zero = some z)
    (hsize : i.size = size) (hby : i.bytes = bytes) (hzs : z.cells.size = size) (hs0 : 0 < size)
    (g0 : Nat) (cur0 : Array Value) (h0 : w.heap[g0]? = some (.cells cur0 e (0, 0))) (A : Option Addr) (n c : Nat) (xs : List Value) (hr : Cel w A xs) (hl : xs.length = n * size) (h1 : ∀ u ∈ xs, u.oneCell' = true) (hm : n ≤ 1099511627776) (hb : bytes ≤ 64) :
    ∃ A' c' w', (Builtin.append_ #[t, t] ty #[.slice (some ⟨g0, 0, none⟩) 0 0, .slice A n c]).run P w = .ok (.slice A' n c') w' ∧ OwnR w' e size A' n c' xs ∧ w.grownBy w' (some g0) ∧ ∃ g, A' = some ⟨g, 0, none⟩ ∧ (g = g0 ∨ g = w.heap.size) := by
  rcases Nat.eq_zero_or_pos n with hn | hn
  · subst hn
    obtain rfl : xs = [] := List.eq_nil_of_length_eq_zero (by simpa using hl)
    refine ⟨some ⟨g0, 0, none⟩, 0, w, ?_, ⟨by simp, Nat.le_refl _, Nat.zero_le _, .inr ⟨g0, cur0, rfl, h0, by simp, by simp⟩⟩, World.grownBy.refl w _, g0, rfl, .inl rfl⟩
    have hld : ∀ a : Addr, (loadCells a 0).run P w = .ok #[] w := fun a => run_loadCells_list (P := P) w a [] (by simp)
    rcases A with _ | ad
    · simp [Builtin.append_, run_underlying ht, sizeOf, typeInfo, hi, Builtin.lenOf, Builtin.firstCells, storeCells]
    · simp [Builtin.append_, run_underlying ht, sizeOf, typeInfo, hi, Builtin.lenOf, Builtin.firstCells, hld, storeCells]
  · obtain ⟨ad, rfl, _, hc⟩ := hr (by rw [hl]; exact Nat.mul_pos hn hs0)
    have hbb : n * bytes ≤ 1099511627776 * 64 := Nat.mul_le_mul hm hb
    obtain ⟨g, c', w', hrun, h2, h3, h4⟩ := run_append_r (P := P) w t ty e i z size bytes ht hi hz hsize hby hzs (some ⟨g0, 0, none⟩) 0 0 [] ⟨by simp, Nat.le_refl _, Nat.zero_le _, .inr ⟨g0, cur0, rfl, h0, by simp, by simp⟩⟩ ad n c xs hl hc h1 hn (by unfold maxLen; omega) (by rw [Nat.zero_add]; omega)
    rw [List.nil_append] at h2
    rw [Nat.zero_add] at hrun h2
    exact ⟨_, c', w', hrun, h2, h3, g, rfl, h4.imp (fun h => by injection h with h; injection h with h; exact h.symm) id⟩
theorem wpList_clone_r {ops : Array Oper} {rest : List Oper} {o : Oper} {a : Act} {Q : Exit → Act → World → Prop} (hgd : o.guard = none) (s x : Operand) (t : TypeId)
    (ho : o.op = .call { callee := .builtin .append, args := #[s, x], argTypes := #[t, t] })
    (e : TypeId) (i : TypeInfo) (z : Value) (size bytes : Nat) (ht : P.underlying t = some (.slice e)) (hi : P.info? e = some i) (hz : i.zero = some z)
    (hsize : i.size = size) (hby : i.bytes = bytes) (hzs : z.cells.size = size) (hs0 : 0 < size)
    (g0 : Nat) (cur0 : Array Value) (h0 : w.heap[g0]? = some (.cells cur0 e (0, 0))) (A : Option Addr) (n c : Nat) (xs : List Value) (hr : Cel w A xs) (hl : xs.length = n * size) (h1 : ∀ u ∈ xs, u.oneCell' = true) (hm : n ≤ 1099511627776) (hb : bytes ≤ 64)
    (hs : a.eval s = .slice (some ⟨g0, 0, none⟩) 0 0) (hx : a.eval x = .slice A n c)
    (h : ∀ g c' w', OwnR w' e size (some ⟨g, 0, none⟩) n c' xs → w.grownBy w' (some g0) → (g = g0 ∨ g = w.heap.size) → wpList P ops Q rest (a.put o.dst (.slice (some ⟨g, 0, none⟩) n c')) w') : wpList P ops Q (o :: rest) a w :=
  wpList_plain hgd fun _ hK => by
    obtain ⟨A', c', w', hrun, h2, h3, g, rfl, h4⟩ := run_clone_r (P := P) (w := w) t o.type e i z size bytes ht hi hz hsize hby hzs hs0 g0 cur0 h0 A n c xs hr hl h1 hm hb
    unfold Oper.wp execOp
    simp only [ho, resolve, invoke, builtin, Sem.run_bind, Sem.run_pure, Result.andThen_ok, List.map_toArray, List.map_cons, List.map_nil, hs, hx, hrun]
    exact hK _ _ (h g c' w' h2 h3 h4)
end
theorem clone_calls (w : World) (A : Option Addr) (L : List Nm) (c : Nat) (hr : Cel w A (nv L)) (hm : L.length ≤ 1099511627776) :
    Calls Try.prog 52 #[.slice A L.length c] w fun e w' => ∃ B d, e = .returned (.slice B L.length d) ∧ Mine w w' B L.length d L ∧ Below w.heap.size w w' := by
  obtain ⟨i0, hi0, hz0, hs0, hb0⟩ := info_parts named_info
  have HI := Lib.hid hi0
  have HZ := Lib.hid hz0
  have HS := Lib.hid hs0
  have HB := Lib.hid hb0
  clear hi0 hz0 hs0 hb0
  have heq := fun w A n c => Lib.run_eql_slice_nil (P := Try.prog) w 26 43 A n c 0 0 Try.underlying26
  rcases A with _ | ad
  · have h0 : L = [] := by
      cases L with
      | nil => rfl
      | cons p r => obtain ⟨ad, h, _⟩ := hr (by simp [nv]); cases h
    subst h0
    go_enter Try.func52, Try.ntmps52
    go_wp2
    go_ret
    exact ⟨none, 0, rfl, ⟨OwnR.nil _ _ _, fun ad h => by cases h⟩, Below.refl _ _⟩
  · go_enter Try.func52, Try.ntmps52
    go_wp2_with (at_builtin; refine wpList_clone_r rfl (.tmp 5) (.tmp 6) 26 rfl 43 i0 _ 2 4 Try.underlying26 HI.out HZ.out HS.out HB.out rfl (by decide) w.heap.size _ (heap_alloc_new _ _) (some ad) L.length c (nv L) (hr.below ((Below.refl _ _).alloc (Nat.le_refl _) _)) (nv_length L) (nv_one L) hm (by decide) rfl rfl ?_; intro g c' w' hown hgr hg)
    go_ret
    exact ⟨_, _, rfl, ⟨hown, fun ad' e => by injection e with e; subst e; show w.heap.size ≤ g; simp at hg; omega⟩, ((Below.refl _ _).alloc (Nat.le_refl _) _).grown hgr (by simp) (fun k e => by injection e with e; omega)⟩
end Go.Proofs.Ytejhodjbgablaaa
