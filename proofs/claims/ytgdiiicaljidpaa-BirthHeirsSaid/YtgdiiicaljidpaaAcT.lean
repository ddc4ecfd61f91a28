/- Access lists as values and as blocks; rows of named ones; copies of them. -/
import Derived.Test.YtgdiiicaljidpaaProg
import Derived.Test.YtgdiiicaljidpaaMemT
import Derived.WalkKit
import Derived.WalkSpells
import Derived.WalkLawsBesides
import Derived.Lib.Hide
import Derived.Deep.QuietTactic
import Derived.BigQuiet
import Derived.Outline
import Derived.Laws.StructEq
import Derived.StillTactics
import Derived.Deep.DeepCutAuto
import Derived.Lib.QuietBelow
import Derived.RegionTactic
import Derived.BigRegion
import Derived.Deep.LoopGhost
import Derived.Laws.Bits64b
import Derived.Laws.BitsAllLaws
set_option linter.unusedSimpArgs false
set_option linter.unusedVariables false
set_option linter.unusedSimpArgs false
set_option linter.unusedVariables false
namespace Go.Proofs.Ytgdiiicaljidpaa
open Go.RowKit
/-- A named one. -/
structure Nm where
  id : Nat
  pm : Nat
/-- As cells. -/
def nv : List Nm → List Value
  | [] => []
  | p :: r => .int .u16 (p.id : Nat) :: .int .u8 (p.pm : Nat) :: nv r
theorem nv_length (L : List Nm) : (nv L).length = L.length * 2 := by
  induction L with
  | nil => rfl
  | cons p r ih => simp only [nv, List.length_cons, ih]; omega
theorem nv_one (L : List Nm) : ∀ u ∈ nv L, u.oneCell' = true := by
  induction L with
  | nil => simp [nv]
  | cons p r ih =>
    intro u hu
    simp only [nv, List.mem_cons] at hu
    rcases hu with rfl | rfl | hu
    · rfl
    · rfl
    · exact ih u hu
theorem nv_get {L : List Nm} : ∀ {k : Nat} {p : Nm}, L[k]? = some p → (nv L)[k * 2]? = some (.int .u16 (p.id : Nat)) ∧ (nv L)[k * 2 + 1]? = some (.int .u8 (p.pm : Nat)) := by
  induction L with
  | nil => intro k p h; simp at h
  | cons q r ih =>
    intro k p h
    cases k with
    | zero =>
      simp only [List.getElem?_cons_zero, Option.some.injEq] at h
      subst h
      exact ⟨rfl, rfl⟩
    | succ k =>
      rw [List.getElem?_cons_succ] at h
      obtain ⟨h1, h2⟩ := ih h
      rw [show (k + 1) * 2 = k * 2 + 1 + 1 by omega, show k * 2 + 1 + 1 + 1 = k * 2 + 1 + 1 + 1 from rfl]
      simp only [nv, List.getElem?_cons_succ]
      exact ⟨h1, h2⟩
theorem nv_setId (L : List Nm) : ∀ {k : Nat} {p : Nm} (n : Nat), L[k]? = some p → nv (L.set k ⟨n, p.pm⟩) = (nv L).set (k * 2) (.int .u16 (n : Nat)) := by
  induction L with
  | nil => intro k p n h; simp at h
  | cons q r ih =>
    intro k p n h
    cases k with
    | zero =>
      simp only [List.getElem?_cons_zero, Option.some.injEq] at h
      subst h
      rfl
    | succ k =>
      rw [List.getElem?_cons_succ] at h
      rw [show (k + 1) * 2 = k * 2 + 1 + 1 by omega, List.set_cons_succ]
      simp only [nv, List.set_cons_succ]
      rw [ih n h]
theorem nv_setPm (L : List Nm) : ∀ {k : Nat} {p : Nm} (n : Nat), L[k]? = some p → nv (L.set k ⟨p.id, n⟩) = (nv L).set (k * 2 + 1) (.int .u8 (n : Nat)) := by
  induction L with
  | nil => intro k p n h; simp at h
  | cons q r ih =>
    intro k p n h
    cases k with
    | zero =>
      simp only [List.getElem?_cons_zero, Option.some.injEq] at h
      subst h
      rfl
    | succ k =>
      rw [List.getElem?_cons_succ] at h
      rw [show (k + 1) * 2 + 1 = k * 2 + 1 + 1 + 1 by omega, List.set_cons_succ]
      simp only [nv, List.set_cons_succ]
      rw [ih n h]
/-- A list. -/
structure Ac where
  ow : Nat
  gr : Nat
  ot : Nat
  us : List Nm
  gs : List Nm
  hm : Bool
  ms : Nat
/-- Its cells, its value; where its rows lie. -/
structure Lie where
  A : Option Addr
  c : Nat
  B : Option Addr
  d : Nat
abbrev Ac.c (x : Ac) (p : Lie) : Array Value := #[.int .u8 (x.ow : Nat), .int .u8 (x.gr : Nat), .int .u8 (x.ot : Nat), .slice p.A x.us.length p.c, .slice p.B x.gs.length p.d, .bool x.hm, .int .u8 (x.ms : Nat)]
abbrev Ac.v (x : Ac) (p : Lie) : Value := .agg (x.c p)
/-- Its rows, in memory. -/
structure Lies (w : World) (x : Ac) (p : Lie) : Prop where
  us : Cel w p.A (nv x.us)
  gs : Cel w p.B (nv x.gs)
theorem Lies.below {w w' : World} {x : Ac} {p : Lie} (h : Lies w x p) (hb : Below w.heap.size w w') : Lies w' x p := ⟨h.us.below hb, h.gs.below hb⟩
theorem Lies.drewN {w : World} {x : Ac} {p : Lie} (h : Lies w x p) (n : Nat) : Lies (w.drewN n) x p := ⟨h.us, h.gs⟩
/-- Small enough. -/
structure Sm (x : Ac) : Prop where
  us : x.us.length ≤ 1099511627776
  gs : x.gs.length ≤ 1099511627776
/-- A block of a list. -/
def Ab (w : World) (b : Nat) (x : Ac) (p : Lie) : Prop := w.heap[b]? = some (.cells (x.c p) 28 (0, 0))
section
variable {w w' : World} {b : Nat} {x : Ac} {p : Lie}
theorem Ab.new (w : World) (x : Ac) (p : Lie) : Ab (w.alloc (.cells (x.c p) 28)) w.heap.size x p := heap_alloc_new w _
theorem Ab.lt (h : Ab w b x p) : b < w.heap.size := lt_of_cells h
theorem Ab.below {k : Nat} (h : Ab w b x p) (hb : Below k w w') (hk : b < k) : Ab w' b x p := (hb.block b hk).trans h
theorem Ab.on (h : Ab w b x p) (hb : Below w.heap.size w w') : Ab w' b x p := h.below hb h.lt
theorem Ab.cell (h : Ab w b x p) (k : Nat) : w.cell? ⟨b, k, none⟩ = (x.c p)[k]? := by
  unfold Ab at h
  simp [World.cell?, h]
theorem Ab.frozen (h : Ab w b x p) (k : Nat) : w.frozen? ⟨b, k, none⟩ = false := by
  unfold Ab at h
  simp [World.frozen?, h]
theorem Ab.cells (h : Ab w b x p) : w.cell? ⟨b, 0, none⟩ = some (.int .u8 (x.ow : Nat)) ∧ w.cell? ⟨b, 1, none⟩ = some (.int .u8 (x.gr : Nat)) ∧ w.cell? ⟨b, 2, none⟩ = some (.int .u8 (x.ot : Nat)) ∧ w.cell? ⟨b, 3, none⟩ = some (.slice p.A x.us.length p.c) ∧
    w.cell? ⟨b, 4, none⟩ = some (.slice p.B x.gs.length p.d) ∧ w.cell? ⟨b, 5, none⟩ = some (.bool x.hm) ∧ w.cell? ⟨b, 6, none⟩ = some (.int .u8 (x.ms : Nat)) :=
  ⟨h.cell 0, h.cell 1, h.cell 2, h.cell 3, h.cell 4, h.cell 5, h.cell 6⟩
end
theorem info_parts {P : Program} {t : TypeId} {z : Value} {s b : Nat} (h : (P.info? t).map (fun i => (i.zero, i.size, i.bytes)) = some (some z, s, b)) : ∃ i, P.info? t = some i ∧ i.zero = some z ∧ i.size = s ∧ i.bytes = b := by
  cases hi : P.info? t with
  | none => rw [hi] at h; cases h
  | some i =>
    rw [hi] at h
    injection h with h
    injection h with h1 h
    injection h with h2 h3
    exact ⟨i, rfl, h1, h2, h3⟩
theorem named_info : (Try.prog.info? 53).map (fun i => (i.zero, i.size, i.bytes)) = some (some (.agg #[.int .u16 0, .int .u8 0]), 2, 4) := by kernel_rfl
/-- A row of the call's own (made at w). -/
def Mine (w w' : World) (A : Option Addr) (n c : Nat) (L : List Nm) : Prop := OwnR w' 53 2 A n c (nv L) ∧ ∀ ad, A = some ad → w.heap.size ≤ ad.block
theorem Mine.cel {w w' : World} {A : Option Addr} {n c : Nat} {L : List Nm} (h : Mine w w' A n c L) : Cel w' A (nv L) := h.1.cel
set_option maxRecDepth 100000 in
/-- 'append(nil, l...)'. -/
theorem run_ncl (A : Option Addr) (L : List Nm) (c : Nat) (w : World) (ty : TypeId) (hc : Cel w A (nv L)) (hl : L.length ≤ 1099511627776) :
    ∃ B cB w', (Builtin.append_ #[26, 26] ty #[.slice none 0 0, .slice A L.length c]).run Try.prog w = .ok (.slice B L.length cB) w' ∧ Mine w w' B L.length cB L ∧ Below w.heap.size w w' := by
  obtain ⟨i0, hi, hz0, hz1, hz2⟩ := info_parts named_info
  rcases A with _ | ad
  · have h0 : L = [] := by
      cases L with
      | nil => rfl
      | cons x r => obtain ⟨ad, h, _⟩ := hc (by rw [nv_length]; simp); cases h
    subst h0
    refine ⟨none, 0, w, ?_, ⟨OwnR.nil _ _ _, fun ad h => by cases h⟩, Below.refl _ _⟩
    simp [Builtin.append_, run_underlying Try.underlying26, sizeOf, typeInfo, hi, Builtin.lenOf, Builtin.firstCells]
  · have hcell : ∀ j u, (nv L)[j]? = some u → w.cell? (ad.add j) = some u := by
      intro j u hu
      obtain ⟨ad', h, _, hcc⟩ := hc (by have := (List.getElem?_eq_some_iff.1 hu).1; omega)
      injection h with h
      subst h
      exact hcc j u hu
    obtain ⟨v', w', hrun, h2, h3, _⟩ := run_append_own (P := Try.prog) w w.heap.size 26 ty 53 i0 (.agg #[.int .u16 0, .int .u8 0]) 2 4 Try.underlying26 hi hz0 hz1 hz2 rfl (by decide) (.slice none 0 0) 0 [] (World.ownsRow_nil _ _ _ _) ad L.length c (nv L) (nv_length L) hcell (nv_one L) (by unfold maxLen; omega) (by omega) (Nat.le_refl _)
    simp only [Nat.zero_add, List.nil_append] at hrun h2
    obtain ⟨B, cB, rfl, hO, hb⟩ := OwnR.of_own h2
    exact ⟨B, cB, w', hrun, ⟨hO, hb⟩, (Below.refl _ _).grown h3 (Nat.le_refl _) (fun k hk => by simp [Value.ownBlock] at hk)⟩
theorem wpList_ncl {w : World} {ops : Array Oper} {rest : List Oper} {o : Oper} {a : Act} {Q : Exit → Act → World → Prop} (hgd : o.guard = none) (s x : Operand)
    (ho : o.op = .call { callee := .builtin .append, args := #[s, x], argTypes := #[26, 26] })
    (A : Option Addr) (L : List Nm) (c : Nat) (hs : a.eval s = .slice none 0 0) (hx : a.eval x = .slice A L.length c) (hr : Cel w A (nv L)) (hlen : L.length ≤ 1099511627776)
    (h : ∀ B cB w', Mine w w' B L.length cB L → Below w.heap.size w w' → wpList Try.prog ops Q rest (a.put o.dst (.slice B L.length cB)) w') : wpList Try.prog ops Q (o :: rest) a w :=
  wpList_plain hgd fun _ hK => by
    obtain ⟨B, cB, w', hrun, h2, h3⟩ := run_ncl A L c w o.type hr hlen
    unfold Oper.wp execOp
    simp only [ho, resolve, invoke, builtin, Sem.run_bind, Sem.run_pure, Result.andThen_ok, List.map_toArray, List.map_cons, List.map_nil, hs, hx, hrun]
    exact hK _ _ (h B cB w' h2 h3)
section
variable {P : Program} {w : World}
/-- 'append(S{}, s...)', an empty row of the call's own (block g0) ahead of it: a row of the call's own that reads as s. -/
theorem run_clone_r (t ty e : TypeId) (i : TypeInfo) (z : Value) (size bytes : Nat) (ht : P.underlying t = some (.slice e)) (hi : P.info? e = some i) (hz : i.zero = some z)
    (hsize : i.size = size) (hby : i.bytes = bytes) (hzs : z.cells.size = size) (hs0 : 0 < size)
    (g0 : Nat) (cur0 : Array Value) (h0 : w.heap[g0]? = some (.cells cur0 e (0, 0))) (A : Option Addr) (n c : Nat) (xs : List Value) (hr : Cel w A xs) (hl : xs.length = n * size) (h1 : ∀ u ∈ xs, u.oneCell' = true) (hm : n ≤ 1099511627776) (hb : bytes ≤ 64) :
    ∃ A' c' w', (Builtin.append_ #[t, t] ty #[.slice (some ⟨g0, 0, none⟩) 0 0, .slice A n c]).run P w = .ok (.slice A' n c') w' ∧ OwnR w' e size A' n c' xs ∧ w.grownBy w' (some g0) ∧ ∃ g, A' = some ⟨g, 0, none⟩ ∧ (g = g0 ∨ g = w.heap.size) := by
  rcases Nat.eq_zero_or_pos n with hn | hn
  · subst hn
    obtain rfl : xs = [] := List.eq_nil_of_length_eq_zero (by simpa using hl)
    refine ⟨some ⟨g0, 0, none⟩, 0, w, ?_, ⟨by simp, Nat.le_refl _, Nat.zero_le _, .inr ⟨g0, cur0, rfl, h0, by simp, by simp⟩⟩, World.grownBy.refl w _, g0, rfl, .inl rfl⟩
    have hld : ∀ a : Addr, (loadCells a 0).run P w = .ok #[] w := fun a => run_loadCells_list (P := P) w a [] (by simp)
    rcases A with _ | ad
    · simp [Builtin.append_, run_underlying ht, sizeOf, typeInfo, hi, Builtin.lenOf, Builtin.firstCells, storeCells]
    · simp [Builtin.append_, run_underlying ht, sizeOf, typeInfo, hi, Builtin.lenOf, Builtin.firstCells, hld, storeCells]
  · obtain ⟨ad, rfl, _, hc⟩ := hr (by rw [hl]; exact Nat.mul_pos hn hs0)
    have hbb : n * bytes ≤ 1099511627776 * 64 := Nat.mul_le_mul hm hb
    obtain ⟨g, c', w', hrun, h2, h3, h4⟩ := run_append_r (P := P) w t ty e i z size bytes ht hi hz hsize hby hzs (some ⟨g0, 0, none⟩) 0 0 [] ⟨by simp, Nat.le_refl _, Nat.zero_le _, .inr ⟨g0, cur0, rfl, h0, by simp, by simp⟩⟩ ad n c xs hl hc h1 hn (by unfold maxLen; omega) (by rw [Nat.zero_add]; omega)
    rw [List.nil_append] at h2
    rw [Nat.zero_add] at hrun h2
    exact ⟨_, c', w', hrun, h2, h3, g, rfl, h4.imp (fun h => by injection h with h; injection h with h; exact h.symm) id⟩
theorem wpList_clone_r {ops : Array Oper} {rest : List Oper} {o : Oper} {a : Act} {Q : Exit → Act → World → Prop} (hgd : o.guard = none) (s x : Operand) (t : TypeId)
    (ho : o.op = .call { callee := .builtin .append, args := #[s, x], argTypes := #[t, t] })
    (e : TypeId) (i : TypeInfo) (z : Value) (size bytes : Nat) (ht : P.underlying t = some (.slice e)) (hi : P.info? e = some i) (hz : i.zero = some z)
    (hsize : i.size = size) (hby : i.bytes = bytes) (hzs : z.cells.size = size) (hs0 : 0 < size)
    (g0 : Nat) (cur0 : Array Value) (h0 : w.heap[g0]? = some (.cells cur0 e (0, 0))) (A : Option Addr) (n c : Nat) (xs : List Value) (hr : Cel w A xs) (hl : xs.length = n * size) (h1 : ∀ u ∈ xs, u.oneCell' = true) (hm : n ≤ 1099511627776) (hb : bytes ≤ 64)
    (hs : a.eval s = .slice (some ⟨g0, 0, none⟩) 0 0) (hx : a.eval x = .slice A n c)
    (h : ∀ g c' w', OwnR w' e size (some ⟨g, 0, none⟩) n c' xs → w.grownBy w' (some g0) → (g = g0 ∨ g = w.heap.size) → wpList P ops Q rest (a.put o.dst (.slice (some ⟨g, 0, none⟩) n c')) w') : wpList P ops Q (o :: rest) a w :=
  wpList_plain hgd fun _ hK => by
    obtain ⟨A', c', w', hrun, h2, h3, g, rfl, h4⟩ := run_clone_r (P := P) (w := w) t o.type e i z size bytes ht hi hz hsize hby hzs hs0 g0 cur0 h0 A n c xs hr hl h1 hm hb
    unfold Oper.wp execOp
    simp only [ho, resolve, invoke, builtin, Sem.run_bind, Sem.run_pure, Result.andThen_ok, List.map_toArray, List.map_cons, List.map_nil, hs, hx, hrun]
    exact hK _ _ (h g c' w' h2 h3 h4)
end
theorem clone_calls (w : World) (A : Option Addr) (L : List Nm) (c : Nat) (hr : Cel w A (nv L)) (hm : L.length ≤ 1099511627776) :
    Calls Try.prog 39 #[.slice A L.length c] w fun e w' => ∃ B d, e = .returned (.slice B L.length d) ∧ Mine w w' B L.length d L ∧ Below w.heap.size w w' := by
  obtain ⟨i0, hi0, hz0, hs0, hb0⟩ := info_parts named_info
  have HI := Lib.hid hi0
  have HZ := Lib.hid hz0
  have HS := Lib.hid hs0
  have HB := Lib.hid hb0
  clear hi0 hz0 hs0 hb0
  have heq := fun w A n c => Lib.run_eql_slice_nil (P := Try.prog) w 26 53 A n c 0 0 Try.underlying26
  rcases A with _ | ad
  · have h0 : L = [] := by
      cases L with
      | nil => rfl
      | cons p r => obtain ⟨ad, h, _⟩ := hr (by simp [nv]); cases h
    subst h0
    go_enter Try.func39, Try.ntmps39
    go_wp2
    go_ret
    exact ⟨none, 0, rfl, ⟨OwnR.nil _ _ _, fun ad h => by cases h⟩, Below.refl _ _⟩
  · go_enter Try.func39, Try.ntmps39
    go_wp2_with (at_builtin; refine wpList_clone_r rfl (.tmp 5) (.tmp 6) 26 rfl 53 i0 _ 2 4 Try.underlying26 HI.out HZ.out HS.out HB.out rfl (by decide) w.heap.size _ (heap_alloc_new _ _) (some ad) L.length c (nv L) (hr.below ((Below.refl _ _).alloc (Nat.le_refl _) _)) (nv_length L) (nv_one L) hm (by decide) rfl rfl ?_; intro g c' w' hown hgr hg)
    go_ret
    exact ⟨_, _, rfl, ⟨hown, fun ad' e => by injection e with e; subst e; show w.heap.size ≤ g; simp at hg; omega⟩, ((Below.refl _ _).alloc (Nat.le_refl _) _).grown hgr (by simp) (fun k e => by injection e with e; omega)⟩
end Go.Proofs.Ytgdiiicaljidpaa
/- Rows of named ones: which may be, which are the same. -/
set_option linter.unusedSimpArgs false
set_option linter.unusedVariables false
namespace Go.Proofs.Ytgdiiicaljidpaa
open Go.RowKit
theorem Cel.at0 {w : World} {A : Option Addr} {xs : List Value} (h : Cel w A xs) (h0 : 0 < xs.length) : ∃ b o, A = some ⟨b, o, none⟩ ∧ b < w.heap.size ∧ ∀ j u, xs[j]? = some u → w.cell? ⟨b, o + j, none⟩ = some u := by
  obtain ⟨⟨b, o, sp⟩, rfl, hlt, hc⟩ := h h0
  have h00 := hc 0 _ (List.getElem?_eq_getElem h0)
  have hsp : sp = none := by
    cases sp with
    | none => rfl
    | some q =>
      have e : (⟨b, o, some q⟩ : Addr).add 0 = ⟨b, o, some q⟩ := by simp [Addr.add]
      rw [e] at h00
      unfold World.cell? at h00
      split at h00
      · simp at h00
      · cases h00
  subst hsp
  refine ⟨b, o, rfl, hlt, fun j u hu => ?_⟩
  have := hc j u hu
  unfold Addr.add at this
  by_cases hj : j = 0
  · subst hj; simpa using this
  · simpa [hj] using this
/-- Element k's two cells. -/
theorem Cel.nm {w : World} {A : Option Addr} {L : List Nm} (h : Cel w A (nv L)) (h0 : 0 < L.length) : ∃ b o, A = some ⟨b, o, none⟩ ∧ b < w.heap.size ∧ ∀ k p, L[k]? = some p → w.cell? ⟨b, o + k * 2, none⟩ = some (.int .u16 (p.id : Nat)) ∧ w.cell? ⟨b, o + k * 2 + 1, none⟩ = some (.int .u8 (p.pm : Nat)) := by
  obtain ⟨b, o, e, hlt, hc⟩ := h.at0 (by rw [nv_length]; omega)
  refine ⟨b, o, e, hlt, fun k p hk => ?_⟩
  obtain ⟨h1, h2⟩ := nv_get hk
  exact ⟨hc _ _ h1, by rw [Nat.add_assoc]; exact hc _ _ h2⟩
/-- So far they may be: perms at most 7, ids rising. -/
structure Rise (L : List Nm) (k : Nat) : Prop where
  pm : ∀ j p, j < k → L[j]? = some p → p.pm ≤ 7
  id : ∀ j p q, j + 1 < k → L[j]? = some p → L[j + 1]? = some q → p.id < q.id
theorem Rise.zero (L : List Nm) : Rise L 0 := ⟨fun j p h => absurd h (by omega), fun j p q h => absurd h (by omega)⟩
theorem Rise.first {L : List Nm} {p : Nm} (hp : L[0]? = some p) (h7 : p.pm ≤ 7) : Rise L 1 :=
  ⟨fun j q hj hq => by obtain rfl : j = 0 := by omega
                       rw [hp] at hq; cases hq; exact h7, fun j p q h => absurd h (by omega)⟩
theorem Rise.more {L : List Nm} {k : Nat} {p q : Nm} (h : Rise L (k + 1)) (hp : L[k]? = some p) (hq : L[k + 1]? = some q) (h7 : q.pm ≤ 7) (hlt : p.id < q.id) : Rise L (k + 2) :=
  ⟨fun j r hj hr => by
      by_cases h1 : j < k + 1
      · exact h.pm j r h1 hr
      · obtain rfl : j = k + 1 := by omega
        rw [hq] at hr; cases hr; exact h7,
   fun j r s hj hr hs => by
      by_cases h1 : j + 1 < k + 1
      · exact h.id j r s h1 hr hs
      · obtain rfl : j = k := by omega
        rw [hp] at hr; rw [hq] at hs; cases hr; cases hs; exact hlt⟩
/-- Perms at most 7; ids rising. -/
def riseB (L : List Nm) : Bool := (L.all fun p => decide (p.pm ≤ 7)) && (List.range L.length).all fun j => match L[j]?, L[j + 1]? with
  | some p, some q => decide (p.id < q.id)
  | _, _ => true
theorem riseB_iff {L : List Nm} : riseB L = true ↔ Rise L L.length := by
  unfold riseB
  rw [Bool.and_eq_true, List.all_eq_true, List.all_eq_true]
  constructor
  · rintro ⟨h1, h2⟩
    refine ⟨fun j p hj hp => by simpa using h1 p (List.mem_of_getElem? hp), fun j p q hj hp hq => ?_⟩
    have := h2 j (List.mem_range.2 (by omega))
    rw [hp, hq] at this
    simpa using this
  · intro h
    refine ⟨fun p hp => ?_, fun j hj => ?_⟩
    · obtain ⟨k, hk⟩ := List.getElem?_of_mem hp
      simpa using h.pm k p (List.getElem?_eq_some_iff.1 hk).1 hk
    · cases hp : L[j]? with
      | none => rfl
      | some p =>
        cases hq : L[j + 1]? with
        | none => rfl
        | some q => simpa using h.id j p q (List.getElem?_eq_some_iff.1 hq).1 hp hq
/-- May such users, or groups, be? -/
def namedB (L : List Nm) : Bool := riseB L && decide (L.length ≤ 4)
theorem namedB_iff {L : List Nm} : namedB L = true ↔ Rise L L.length ∧ L.length ≤ 4 := by
  unfold namedB
  rw [Bool.and_eq_true, riseB_iff, decide_eq_true_eq]
theorem namedB_yes {L : List Nm} (h : Rise L L.length) (h4 : L.length ≤ 4) : namedB L = true := namedB_iff.2 ⟨h, h4⟩
theorem namedB_no {L : List Nm} (h : ¬ (Rise L L.length ∧ L.length ≤ 4)) : namedB L = false := by
  cases hb : namedB L
  · rfl
  · exact absurd (namedB_iff.1 hb) h
theorem namedB_pm {L : List Nm} {k : Nat} {p : Nm} (hp : L[k]? = some p) (h : 7 < p.pm) : namedB L = false :=
  namedB_no fun ⟨h1, _⟩ => by have := h1.pm k p (List.getElem?_eq_some_iff.1 hp).1 hp; omega
theorem namedB_id {L : List Nm} {k : Nat} {p q : Nm} (hp : L[k]? = some p) (hq : L[k + 1]? = some q) (h : q.id ≤ p.id) : namedB L = false :=
  namedB_no fun ⟨h1, _⟩ => by have := h1.id k p q (List.getElem?_eq_some_iff.1 hq).1 hp hq; omega
theorem namedB_long {L : List Nm} (h : 4 < L.length) : namedB L = false := namedB_no fun ⟨_, h2⟩ => by omega
theorem namedB_len {L : List Nm} (h : Rise L L.length) : namedB L = decide (L.length ≤ 4) := by
  by_cases h4 : L.length ≤ 4
  · rw [namedB_yes h h4]; simp [h4]
  · rw [namedB_long (by omega)]; simp [h4]
theorem namedB_nil : namedB [] = true := namedB_yes (Rise.zero _) (by simp)

set_option maxRecDepth 100000 in
theorem rnamed_calls (A : Option Addr) (L : List Nm) (c : Nat) (w : World) (hc : Cel w A (nv L)) (hlen : L.length ≤ 1099511627776) :
    Calls Try.prog 42 #[.slice A L.length c] w (Q (.bool (namedB L)) w) := by
  obtain ⟨n, hn⟩ : ∃ n, L.length = n := ⟨_, rfl⟩
  have HN := Lib.hid hn
  rw [hn] at hlen ⊢
  clear hn
  go_enter Try.func42, Try.ntmps42
  go_wp2_with (fail)
  go_loopw [3] (fun i wr => ∃ k : Nat, i = .int .i64 k ∧ k ≤ n ∧ Hid (Rise L k) ∧ ∃ q, wr = w.drewN q) (fun i _ => n - (intOf i).toNat)
  case atStart => exact ⟨0, rfl, by omega, Lib.hid (Rise.zero L), 0, rfl⟩
  case round =>
    obtain ⟨k, rfl, hk, hR, q, rfl⟩ := hrel
    by_cases hkn : k < n
    · obtain ⟨b, o, rfl, hlt, hcell⟩ := hc.nm (by rw [HN.out]; omega)
      obtain ⟨p, hp⟩ : ∃ p, L[k]? = some p := ⟨_, List.getElem?_eq_getElem (by rw [HN.out]; exact hkn)⟩
      obtain ⟨e1, e2⟩ := hcell k p hp
      have HP := Lib.hid hp
      clear hp
      by_cases h7 : p.pm ≤ 7
      · have h7' : decide (7 < (p.pm : Int)) = false := by rw [decide_eq_false_iff_not]; omega
        cases k with
        | zero =>
          have HR2 := Lib.hid (Rise.first HP.out h7)
          clear hcell
          go_wp2_with (fail)
          go_quiet (fail)
          go_wp2_with (fail)
          go_roundw
          case rel => exact ⟨1, by go_num, by omega, HR2, _, rfl⟩
          case measure => simp [intOf]; omega
        | succ k =>
          obtain ⟨r, hr⟩ : ∃ r, L[k]? = some r := ⟨_, List.getElem?_eq_getElem (by rw [HN.out]; omega)⟩
          obtain ⟨e3, e4⟩ := hcell k r hr
          have HR1 := Lib.hid hr
          have h0 : decide ((0 : Int) < ((k + 1 : Nat) : Int)) = true := by rw [decide_eq_true_eq]; omega
          have h0' : decide ((0 : Int) < (k : Int) + 1) = true := by rw [decide_eq_true_eq]; omega
          have hk1 : (k : Int) + 1 - 1 = (k : Int) := by omega
          clear hcell hr
          by_cases hid : r.id < p.id
          · have hid' : decide ((p.id : Int) ≤ (r.id : Int)) = false := by rw [decide_eq_false_iff_not]; omega
            have HR2 := Lib.hid (hR.out.more HR1.out HP.out h7 hid)
            go_wp2_with (fail)
            go_quiet (fail)
            go_wp2_with (fail)
            go_roundw
            case rel => exact ⟨k + 2, by go_num, by omega, HR2, _, rfl⟩
            case measure => simp [intOf]; omega
          · have hid' : decide ((p.id : Int) ≤ (r.id : Int)) = true := by rw [decide_eq_true_eq]; omega
            have HV := Lib.hid (namedB_id HR1.out HP.out (by omega))
            go_wp2_with (fail)
            go_quiet (fail)
            go_wp2_with (fail)
            go_ret
            rw [HV.out, World.drewN_drewN]
            exact Q.of
      · have h7' : decide (7 < (p.pm : Int)) = true := by rw [decide_eq_true_eq]; omega
        have HV := Lib.hid (namedB_pm HP.out (by omega))
        clear hcell
        go_wp2_with (fail)
        go_quiet (fail)
        go_wp2_with (fail)
        go_ret
        rw [HV.out, World.drewN_drewN]
        exact Q.of
    · obtain rfl : k = n := by omega
      have HV : Hid (namedB L = decide (k ≤ 4)) := by have h := hR.out; rw [← HN.out] at h; have := namedB_len h; rw [HN.out] at this; exact this
      go_wp2_with (fail)
      go_ret
      rw [HV.out]
      have : decide ((k : Int) ≤ 4) = decide (k ≤ 4) := by rw [decide_eq_decide]; omega
      try rw [this]
      exact Q.of
/-! ### which are the same -/
def eqN (a b c d : Nat) : Bool := decide (a = c) && decide (b = d)
set_option maxRecDepth 100000 in
theorem eqNm (a b c d : Nat) (w : World) :
    (Op.equalIn 10000 53 (.agg #[.int .u16 (a : Nat), .int .u8 (b : Nat)]) (.agg #[.int .u16 (c : Nat), .int .u8 (d : Nat)])).run Try.prog w = .ok (eqN a b c d) w := by
  have u3 := Try.underlying22
  have a3 := Try.isAgg22
  have z3 := Try.sizeOf22
  have u4 := Try.underlying5
  have a4 := Try.isAgg5
  have z4 := Try.sizeOf5
  have hS : Try.prog.underlying 53 = some (.struct (Try.prog.fieldsOf 53)) := by kernel_rfl
  have hp : Try.prog.stoodInHeld 53 = false := by kernel_rfl
  rw [show (10000 : Nat) = 9999 + 1 from rfl, run_equalIn_agg w 9999 53 _ _ hS hp]
  simp only [Program.fieldsOf, Try.underlying53]
  go_simp
  unfold eqN
  by_cases h1 : a = c <;> by_cases h2 : b = d <;> simp [h1, h2] <;> omega
/-- So far they are the same. -/
def Alike (L M : List Nm) (k : Nat) : Prop := ∀ j, j < k → L[j]? = M[j]?
theorem Alike.more {L M : List Nm} {k : Nat} (h : Alike L M k) (e : L[k]? = M[k]?) : Alike L M (k + 1) := fun j hj => by
  by_cases h1 : j < k
  · exact h j h1
  · obtain rfl : j = k := by omega
    exact e
theorem Alike.eq {L M : List Nm} (h : Alike L M L.length) (hl : L.length = M.length) : L = M := by
  apply List.ext_getElem?
  intro i
  by_cases hi : i < L.length
  · exact h i hi
  · rw [List.getElem?_eq_none (by omega), List.getElem?_eq_none (by omega)]
instance : DecidableEq Nm := fun p q => if h : p.id = q.id ∧ p.pm = q.pm then isTrue (by cases p; cases q; simp only at h; rw [h.1, h.2]) else isFalse (by rintro rfl; exact h ⟨rfl, rfl⟩)
def rowsB (L M : List Nm) : Bool := decide (L = M)
theorem rowsB_self (L : List Nm) : rowsB L L = true := decide_eq_true rfl
theorem rowsB_no {L M : List Nm} (h : L ≠ M) : rowsB L M = false := decide_eq_false h
theorem rowsB_iff {L M : List Nm} : rowsB L M = true ↔ L = M := decide_eq_true_iff
theorem rowsB_at {L M : List Nm} {k : Nat} {p q : Nm} (hp : L[k]? = some p) (hq : M[k]? = some q) (h : p ≠ q) : rowsB L M = false :=
  rowsB_no (by rintro rfl; rw [hp] at hq; cases hq; exact h rfl)
theorem nm_ext {p q : Nm} (h1 : p.id = q.id) (h2 : p.pm = q.pm) : p = q := by cases p; cases q; simp only at h1 h2; rw [h1, h2]
theorem eqN_yes (a b : Nat) : eqN a b a b = true := by simp [eqN]
theorem eqN_no {p q : Nm} (h : p ≠ q) : eqN p.id p.pm q.id q.pm = false := by
  cases hb : eqN p.id p.pm q.id q.pm
  · rfl
  · simp only [eqN, Bool.and_eq_true, decide_eq_true_eq] at hb
    exact absurd (nm_ext hb.1 hb.2) h
set_option maxRecDepth 100000 in
theorem rsame_calls (A B : Option Addr) (L M : List Nm) (c d : Nat) (w : World) (ha : Cel w A (nv L)) (hb : Cel w B (nv M)) (hlen : L.length ≤ 1099511627776) (hlen2 : M.length ≤ 1099511627776) :
    Calls Try.prog 34 #[.slice A L.length c, .slice B M.length d] w (Q (.bool (rowsB L M)) w) := by
  by_cases hn : L.length = M.length
  · obtain ⟨n, hLn⟩ : ∃ n, L.length = n := ⟨_, rfl⟩
    have hMn : M.length = n := by omega
    have HL := Lib.hid hLn
    have HM := Lib.hid hMn
    rw [hLn, hMn]
    rw [hLn] at hlen
    clear hn hLn hMn hlen2
    go_enter Try.func34, Try.ntmps34
    go_wp2_with (fail)
    go_loopw [5] (fun i wr => ∃ k : Nat, i = .int .i64 k ∧ k ≤ n ∧ Hid (Alike L M k) ∧ ∃ q, wr = w.drewN q) (fun i _ => n - (intOf i).toNat)
    case atStart => exact ⟨0, rfl, by omega, Lib.hid (fun j hj => absurd hj (by omega)), 0, rfl⟩
    case round =>
      obtain ⟨k, rfl, hk, hs, q, rfl⟩ := hrel
      by_cases h1 : k < n
      · obtain ⟨b1, o1, rfl, _, hca⟩ := ha.nm (by rw [HL.out]; omega)
        obtain ⟨b2, o2, rfl, _, hcb⟩ := hb.nm (by rw [HM.out]; omega)
        obtain ⟨p, hp⟩ : ∃ p, L[k]? = some p := ⟨_, List.getElem?_eq_getElem (by rw [HL.out]; exact h1)⟩
        obtain ⟨r, hr⟩ : ∃ r, M[k]? = some r := ⟨_, List.getElem?_eq_getElem (by rw [HM.out]; exact h1)⟩
        obtain ⟨e1, e2⟩ := hca k p hp
        obtain ⟨e3, e4⟩ := hcb k r hr
        have HP := Lib.hid hp
        have HR := Lib.hid hr
        clear hca hcb hp hr
        by_cases he : p = r
        · subst he
          have hE := fun w => eqNm p.id p.pm p.id p.pm w
          rw [eqN_yes] at hE
          have hs' := Lib.hid (hs.out.more (HP.out.trans HR.out.symm))
          go_wp2_with (fail)
          go_quiet (fail)
          go_wp2_with (fail)
          go_roundw
          case rel => exact ⟨k + 1, by go_num, by omega, hs', _, rfl⟩
          case measure => simp [intOf]; omega
        · have hE := fun w => eqNm p.id p.pm r.id r.pm w
          rw [eqN_no he] at hE
          have HV := Lib.hid (rowsB_at HP.out HR.out he)
          clear he
          go_wp2_with (fail)
          go_quiet (fail)
          go_wp2_with (fail)
          go_ret
          rw [HV.out, World.drewN_drewN]
          exact Q.of
      · obtain rfl : k = n := by omega
        have HV : Hid (rowsB L M = true) := Lib.hid (rowsB_iff.2 (by have h := hs.out; rw [← HL.out] at h; exact h.eq (HL.out.trans HM.out.symm)))
        go_wp2_with (fail)
        go_ret
        rw [HV.out]
        exact Q.of
  · have HV : Hid (rowsB L M = false) := Lib.hid (rowsB_no (by rintro rfl; exact hn rfl))
    have hne : ((L.length : Int) == (M.length : Nat)) = false := by rw [beq_eq_false_iff_ne]; omega
    go_enter Try.func34, Try.ntmps34
    go_wp2_with (fail)
    go_ret
    rw [HV.out]
    exact Q.self
set_option maxRecDepth 100000 in
theorem equal_calls (A B : Option Addr) (L M : List Nm) (c d : Nat) (w : World) (ha : Cel w A (nv L)) (hb : Cel w B (nv M)) (hlen : L.length ≤ 1099511627776) (hlen2 : M.length ≤ 1099511627776) :
    Calls Try.prog 55 #[.slice A L.length c, .slice B M.length d] w (Q (.bool (rowsB L M)) w) := by
  by_cases hn : L.length = M.length
  · obtain ⟨n, hLn⟩ : ∃ n, L.length = n := ⟨_, rfl⟩
    have hMn : M.length = n := by omega
    have HL := Lib.hid hLn
    have HM := Lib.hid hMn
    rw [hLn, hMn]
    rw [hLn] at hlen
    clear hn hLn hMn hlen2
    go_enter Try.func55, Try.ntmps55
    go_wp2_with (fail)
    go_loopw [13] (fun i wr => ∃ k : Nat, i = .int .i64 k ∧ k ≤ n ∧ Hid (Alike L M k) ∧ ∃ q, wr = w.drewN q) (fun i _ => n - (intOf i).toNat)
    case atStart => exact ⟨0, rfl, by omega, Lib.hid (fun j hj => absurd hj (by omega)), 0, rfl⟩
    case round =>
      obtain ⟨k, rfl, hk, hs, q, rfl⟩ := hrel
      by_cases h1 : k < n
      · obtain ⟨b1, o1, rfl, _, hca⟩ := ha.nm (by rw [HL.out]; omega)
        obtain ⟨b2, o2, rfl, _, hcb⟩ := hb.nm (by rw [HM.out]; omega)
        obtain ⟨p, hp⟩ : ∃ p, L[k]? = some p := ⟨_, List.getElem?_eq_getElem (by rw [HL.out]; exact h1)⟩
        obtain ⟨r, hr⟩ : ∃ r, M[k]? = some r := ⟨_, List.getElem?_eq_getElem (by rw [HM.out]; exact h1)⟩
        obtain ⟨e1, e2⟩ := hca k p hp
        obtain ⟨e3, e4⟩ := hcb k r hr
        have HP := Lib.hid hp
        have HR := Lib.hid hr
        clear hca hcb hp hr
        by_cases he : p = r
        · subst he
          have hE := fun w => eqNm p.id p.pm p.id p.pm w
          rw [eqN_yes] at hE
          have hs' := Lib.hid (hs.out.more (HP.out.trans HR.out.symm))
          go_wp2_with (fail)
          go_quiet (fail)
          go_wp2_with (fail)
          go_roundw
          case rel => exact ⟨k + 1, by go_num, by omega, hs', _, rfl⟩
          case measure => simp [intOf]; omega
        · have hE := fun w => eqNm p.id p.pm r.id r.pm w
          rw [eqN_no he] at hE
          have HV := Lib.hid (rowsB_at HP.out HR.out he)
          clear he
          go_wp2_with (fail)
          go_quiet (fail)
          go_wp2_with (fail)
          go_ret
          rw [HV.out, World.drewN_drewN]
          exact Q.of
      · obtain rfl : k = n := by omega
        have HV : Hid (rowsB L M = true) := Lib.hid (rowsB_iff.2 (by have h := hs.out; rw [← HL.out] at h; exact h.eq (HL.out.trans HM.out.symm)))
        go_wp2_with (fail)
        go_ret
        rw [HV.out]
        exact Q.of
  · have HV : Hid (rowsB L M = false) := Lib.hid (rowsB_no (by rintro rfl; exact hn rfl))
    have hne : ((L.length : Int) == (M.length : Nat)) = false := by rw [beq_eq_false_iff_ne]; omega
    go_enter Try.func55, Try.ntmps55
    go_wp2_with (fail)
    go_ret
    rw [HV.out]
    exact Q.self
end Go.Proofs.Ytgdiiicaljidpaa
/- Copies, and which lists are the same. -/
set_option linter.unusedSimpArgs false
set_option linter.unusedVariables false
namespace Go.Proofs.Ytgdiiicaljidpaa
open Go.RowKit
/-- The rows of a copy (made at w): the call's own, apart. -/
structure Copied (w w' : World) (x : Ac) (p : Lie) : Prop where
  us : Mine w w' p.A x.us.length p.c x.us
  gs : Mine w w' p.B x.gs.length p.d x.gs
  ne : ∀ a b, p.A = some a → p.B = some b → a.block ≠ b.block
theorem Copied.lies {w w' : World} {x : Ac} {p : Lie} (h : Copied w w' x p) : Lies w' x p := ⟨h.us.cel, h.gs.cel⟩
theorem Mine.on {w w' w'' : World} {A : Option Addr} {n c : Nat} {L : List Nm} (h : Mine w w' A n c L) (hb : Below w'.heap.size w' w'') : Mine w w'' A n c L :=
  ⟨h.1.keep fun ad e => hb.block _ (h.1.lt ad e), h.2⟩
theorem Mine.from {v w w' : World} {A : Option Addr} {n c : Nat} {L : List Nm} (h : Mine w w' A n c L) (hb : v.heap.size ≤ w.heap.size) : Mine v w' A n c L :=
  ⟨h.1, fun ad e => Nat.le_trans hb (h.2 ad e)⟩
theorem Copied.on {w w' w'' : World} {x : Ac} {p : Lie} (h : Copied w w' x p) (hb : Below w'.heap.size w' w'') : Copied w w'' x p := ⟨h.us.on hb, h.gs.on hb, h.ne⟩
theorem Copied.from {v w w' : World} {x : Ac} {p : Lie} (h : Copied w w' x p) (hb : v.heap.size ≤ w.heap.size) : Copied v w' x p := ⟨h.us.from hb, h.gs.from hb, h.ne⟩
/-- Two rows, made one behind the other. -/
theorem Copied.of {w w1 w2 w3 : World} {x : Ac} {p : Lie} (h1 : Mine w w1 p.A x.us.length p.c x.us) (h12 : Below w1.heap.size w1 w2) (h2 : Mine w2 w3 p.B x.gs.length p.d x.gs) (h23 : Below w2.heap.size w2 w3) (h0 : w.heap.size ≤ w1.heap.size) : Copied w w3 x p :=
  ⟨(h1.on h12).on h23, h2.from (Nat.le_trans h0 h12.size), fun a b ha hb e => by
    have := h1.1.lt a ha
    have := h2.2 b hb
    have := h12.size
    omega⟩
/-- No list: what a result begins as. -/
abbrev acZ : Ac := ⟨0, 0, 0, [], [], false, 0⟩
abbrev lieZ : Lie := ⟨none, 0, none, 0⟩
section
variable {w w' : World} {b : Nat} {x : Ac} {p : Lie}
theorem Ab.set3 (h : Ab w b x p) (A : Option Addr) (c : Nat) : Ab (w.setCell ⟨b, 3, none⟩ (.slice A x.us.length c)) b x ⟨A, c, p.B, p.d⟩ := by
  unfold Ab at h ⊢
  exact heap_setCell_same _ _ _ _ _ _ h
theorem Ab.set4 (h : Ab w b x p) (B : Option Addr) (d : Nat) : Ab (w.setCell ⟨b, 4, none⟩ (.slice B x.gs.length d)) b x ⟨p.A, p.c, B, d⟩ := by
  unfold Ab at h ⊢
  exact heap_setCell_same _ _ _ _ _ _ h
theorem Ab.other (h : Ab w b x p) {a : Addr} (v : Value) (hne : b ≠ a.block) : Ab (w.setCell a v) b x p := by
  unfold Ab at h ⊢
  rw [Below.heap_setCell w a v b hne]
  exact h
/-- A cell of a block b turned: rows elsewhere stay. -/
theorem Cel.other {A : Option Addr} {xs : List Value} (h : Cel w A xs) {a : Addr} (v : Value) (hne : ∀ ad, A = some ad → 0 < xs.length → ad.block ≠ a.block) : Cel (w.setCell a v) A xs := fun h0 => by
  obtain ⟨ad, e, hl, hc⟩ := h h0
  have hn := hne ad e h0
  exact ⟨ad, e, by simpa [World.setCell] using hl, fun j u hu => (World.cell?_of_block (by rw [add_block]; exact Below.heap_setCell w a v ad.block hn)).trans (hc j u hu)⟩
theorem Mine.other {A : Option Addr} {n c : Nat} {L : List Nm} (h : Mine w w' A n c L) {a : Addr} (v : Value) (hne : ∀ ad, A = some ad → ad.block ≠ a.block) : Mine w (w'.setCell a v) A n c L :=
  ⟨h.1.keep fun ad e => Below.heap_setCell w' a v ad.block (hne ad e), h.2⟩
theorem Ab.two (w : World) (x : Ac) (p : Lie) : Ab ((w.alloc (.cells (x.c p) 28)).alloc (.cells (acZ.c lieZ) 28)) w.heap.size x p ∧ Ab ((w.alloc (.cells (x.c p) 28)).alloc (.cells (acZ.c lieZ) 28)) (w.heap.size + 1) acZ lieZ :=
  ⟨(Ab.new w x p).on ((Below.refl _ _).alloc (Nat.le_refl _) _), by have h := Ab.new (w.alloc (.cells (x.c p) 28)) acZ lieZ; rwa [World.size_alloc] at h⟩
end
section
variable {w w' : World} {b : Nat} {x0 : Ac} {p0 : Lie}
/-- All of a list, stored over another. -/
abbrev setAll (w : World) (b : Nat) (x : Ac) (p : Lie) : World := (((((((w.setCell ⟨b, 0, none⟩ (.int .u8 (x.ow : Nat))).setCell ⟨b, 1, none⟩ (.int .u8 (x.gr : Nat))).setCell ⟨b, 2, none⟩ (.int .u8 (x.ot : Nat))).setCell ⟨b, 3, none⟩ (.slice p.A x.us.length p.c)).setCell ⟨b, 4, none⟩ (.slice p.B x.gs.length p.d)).setCell ⟨b, 5, none⟩ (.bool x.hm)).setCell ⟨b, 6, none⟩ (.int .u8 (x.ms : Nat)))
theorem set_cell {cs : Array Value} {t : TypeId} {w : World} (h : w.heap[b]? = some (.cells cs t (0, 0))) (k : Nat) (v : Value) : (w.setCell ⟨b, k, none⟩ v).heap[b]? = some (.cells (cs.setIfInBounds k v) t (0, 0)) := by
  simp [World.setCell, Array.getElem?_modify, h]
theorem Ab.all (h : Ab w b x0 p0) (x : Ac) (p : Lie) : Ab (setAll w b x p) b x p := by
  have h7 := set_cell (set_cell (set_cell (set_cell (set_cell (set_cell (set_cell h 0 (.int .u8 (x.ow : Nat))) 1 (.int .u8 (x.gr : Nat))) 2 (.int .u8 (x.ot : Nat))) 3 (.slice p.A x.us.length p.c)) 4 (.slice p.B x.gs.length p.d)) 5 (.bool x.hm)) 6 (.int .u8 (x.ms : Nat))
  unfold Ab
  simpa using h7
theorem below_all {k : Nat} {p : Lie} (h : Below k w w') (hb : k ≤ b) (x : Ac) : Below k w (setAll w' b x p) :=
  ((((((h.setCell hb _).setCell hb _).setCell hb _).setCell hb _).setCell hb _).setCell hb _).setCell hb _
theorem Mine.all {A : Option Addr} {n c : Nat} {L : List Nm} (h : Mine w w' A n c L) (x : Ac) (p : Lie) (hne : ∀ ad, A = some ad → ad.block ≠ b) : Mine w (setAll w' b x p) A n c L :=
  ((((((h.other _ hne).other _ hne).other _ hne).other _ hne).other _ hne).other _ hne).other _ hne
theorem Copied.all {y : Ac} {q : Lie} (h : Copied w w' y q) (x : Ac) (p : Lie) (h1 : ∀ ad, q.A = some ad → ad.block ≠ b) (h2 : ∀ ad, q.B = some ad → ad.block ≠ b) : Copied w (setAll w' b x p) y q := ⟨h.us.all x p h1, h.gs.all x p h2, h.ne⟩
theorem Ab.others (h : Ab w b x0 p0) {g : Nat} (x : Ac) (p : Lie) (hne : b ≠ g) : Ab (setAll w g x p) b x0 p0 :=
  ((((((h.other _ hne).other _ hne).other _ hne).other _ hne).other _ hne).other _ hne).other _ hne
end
abbrev zC : Array Value := #[.int .u8 0, .int .u8 0, .int .u8 0, .slice none 0 0, .slice none 0 0, .bool false, .int .u8 0]
/-- A block that holds nothing yet. -/
def Zb (w : World) (b : Nat) : Prop := w.heap[b]? = some (.cells zC 28 (0, 0))
theorem Zb.ab {w : World} {b : Nat} (h : Zb w b) : Ab w b acZ lieZ := h
set_option maxRecDepth 100000 in
theorem rcopy_calls (x : Ac) (p : Lie) (w : World) (h : Lies w x p) (hs : Sm x) : Calls Try.prog 21 #[x.v p] w fun e w' => ∃ q, e = .returned (x.v q) ∧ Copied w w' x q ∧ Below w.heap.size w w' := by
  obtain ⟨ow, gr, ot, us, gs, hm, ms⟩ := x
  obtain ⟨A, c, B, d⟩ := p
  obtain ⟨U, hU⟩ : ∃ U, U = (w.alloc (.cells #[.int .u8 (ow : Nat), .int .u8 (gr : Nat), .int .u8 (ot : Nat), .slice A us.length c, .slice B gs.length d, .bool hm, .int .u8 (ms : Nat)] 28)).alloc (.cells zC 28) := ⟨_, rfl⟩
  obtain ⟨z1, z2⟩ := Ab.two w ⟨ow, gr, ot, us, gs, hm, ms⟩ ⟨A, c, B, d⟩
  replace z1 : Ab U w.heap.size ⟨ow, gr, ot, us, gs, hm, ms⟩ ⟨A, c, B, d⟩ := by rw [hU]; exact z1
  replace z2 : Ab U (w.heap.size + 1) acZ lieZ := by rw [hU]; exact z2
  have hb : Below w.heap.size w U := by rw [hU]; exact ((Below.refl _ _).alloc (Nat.le_refl _) _).alloc (by simp) _
  have hsz : U.heap.size = w.heap.size + 2 := by rw [hU]; simp
  obtain ⟨HU, HG⟩ := h.below hb
  obtain ⟨s1, s2⟩ := hs
  simp only at HU HG s1 s2
  have H0 := Lib.hid h.gs
  clear h
  have HZ := Lib.hid hsz
  have HB := Lib.hid hb
  clear hsz hb
  go_enter Try.func21, Try.ntmps21
  go_upto_region 1 with (fail)
  rw [← hU]
  clear hU
  obtain ⟨_, _, _, y3, y4, _, _⟩ := z1.cells
  have Z1 := Lib.hid z1
  have Z2 := Lib.hid z2
  clear z1 z2
  go_upto_region 2 with (at_builtin; refine wpList_ncl rfl (.const (.slice none 0 0)) (.tmp 4) rfl A us c rfl rfl HU s1 ?_; intro A1 c1 w1 hM1 hb1; have z := Z1.out.on hb1; have y3 := z.cell 3; have f3 := z.frozen 3; have HB1 := Lib.hid hb1; have HM1 := Lib.hid hM1; clear z hb1 hM1)
  clear y3 y4 f3
  obtain ⟨U2, hU2⟩ : ∃ U2, U2 = w1.setCell ⟨w.heap.size, 3, none⟩ (.slice A1 us.length c1) := ⟨_, rfl⟩
  rw [← hU2]
  have s12 := HB1.out.size
  have z1 : Ab U2 w.heap.size ⟨ow, gr, ot, us, gs, hm, ms⟩ ⟨A1, c1, B, d⟩ := by rw [hU2]; exact (Z1.out.on HB1.out).set3 A1 c1
  have z2 : Ab U2 (w.heap.size + 1) acZ lieZ := by rw [hU2]; exact (Z2.out.on HB1.out).other _ (by show w.heap.size + 1 ≠ w.heap.size; omega)
  have hb2 : Below w.heap.size w U2 := by rw [hU2]; exact (HB.out.trans (HB1.out.mono HB.out.size)).setCell (Nat.le_refl _) _
  have hb12 : U2.heap.size = w1.heap.size := by rw [hU2]; simp [World.setCell]
  have hM2 : Mine U U2 A1 us.length c1 us := by rw [hU2]; exact HM1.out.other _ (fun ad e => by have := HM1.out.2 ad e; have := HZ.out; show ad.block ≠ w.heap.size; omega)
  have hG2 : Cel U2 B (nv gs) := by rw [hU2]; exact (HG.below HB1.out).other _ (fun ad e h0 => by
    obtain ⟨ad', e', hl, _⟩ := H0.out h0
    rw [e] at e'; injection e' with e'; subst e'
    show ad.block ≠ w.heap.size; omega)
  have Z21 := Lib.hid z1
  have Z22 := Lib.hid z2
  have HB2 := Lib.hid hb2
  have HM2 := Lib.hid hM2
  have H12 := Lib.hid hb12
  have S12 := Lib.hid s12
  obtain ⟨_, _, _, y3, y4, _, _⟩ := z1.cells
  clear z1 z2 hb2 hb12 hM2 HU HG Z1 Z2 HB1 HM1 hU2 s12
  go_upto_region 3 with (at_builtin; refine wpList_ncl rfl (.const (.slice none 0 0)) (.tmp 8) rfl B gs d rfl rfl hG2 s2 ?_; intro B1 d1 w3 hM3 hb3; have z := Z21.out.on hb3; have y4 := z.cell 4; have f4 := z.frozen 4; have HB3 := Lib.hid hb3; have HM3 := Lib.hid hM3; clear z hb3 hM3)
  clear y3 y4 f4
  obtain ⟨U4, hU4⟩ : ∃ U4, U4 = w3.setCell ⟨w.heap.size, 4, none⟩ (.slice B1 gs.length d1) := ⟨_, rfl⟩
  rw [← hU4]
  have s34 := HB3.out.size
  have z1 : Ab U4 w.heap.size ⟨ow, gr, ot, us, gs, hm, ms⟩ ⟨A1, c1, B1, d1⟩ := by rw [hU4]; exact (Z21.out.on HB3.out).set4 B1 d1
  have z2 : Ab U4 (w.heap.size + 1) acZ lieZ := by rw [hU4]; exact (Z22.out.on HB3.out).other _ (by show w.heap.size + 1 ≠ w.heap.size; omega)
  have hb4 : Below w.heap.size w U4 := by rw [hU4]; exact (HB2.out.trans (HB3.out.mono HB2.out.size)).setCell (Nat.le_refl _) _
  have hC4 : Copied w U4 ⟨ow, gr, ot, us, gs, hm, ms⟩ ⟨A1, c1, B1, d1⟩ := by
    have q0 := HZ.out
    have q1 := H12.out
    have q2 := S12.out
    have h0 : Copied w w3 ⟨ow, gr, ot, us, gs, hm, ms⟩ ⟨A1, c1, B1, d1⟩ := Copied.of (w1 := U2) (w2 := U2) (HM2.out.from (by omega)) (Below.refl _ _) HM3.out HB3.out HB2.out.size
    rw [hU4]
    exact ⟨h0.us.other _ (fun ad e => by have := HM2.out.2 ad e; show ad.block ≠ w.heap.size; omega), h0.gs.other _ (fun ad e => by have := HM3.out.2 ad e; show ad.block ≠ w.heap.size; omega), h0.ne⟩
  obtain ⟨y0, y1, y2, y3, y4, y5, y6⟩ := z1.cells
  obtain ⟨v0, v1, v2, v3, v4, v5, v6⟩ := z2.cells
  have f0 := z2.frozen 0
  have f1 := z2.frozen 1
  have f2 := z2.frozen 2
  have f3 := z2.frozen 3
  have f4 := z2.frozen 4
  have f5 := z2.frozen 5
  have f6 := z2.frozen 6
  have HB4 := Lib.hid hb4
  have HC4 := Lib.hid hC4
  have ZZ2 := Lib.hid z2
  have HF4 : Hid ((∀ ad, A1 = some ad → w.heap.size + 2 ≤ ad.block) ∧ ∀ ad, B1 = some ad → w.heap.size + 2 ≤ ad.block) := Lib.hid (by
    have q0 := HZ.out
    have q1 := H12.out
    have q2 := S12.out
    exact ⟨fun ad e => by have := HM2.out.2 ad e; omega, fun ad e => by have := HM3.out.2 ad e; omega⟩)
  clear z1 z2 hb4 hC4 Z21 Z22 HB2 HM2 H12 HB3 HM3 hU4 HB HZ S12 s34
  simp only at y0 y1 y2 y3 y4 y5 y6 v0 v1 v2 v3 v4 v5 v6
  go_wp2_with (fail)
  clear y0 y1 y2 y3 y4 y5 y6 v0 v1 v2 v3 v4 v5 v6 f0 f1 f2 f3 f4 f5 f6
  generalize hV : (((((((U4.setCell ⟨w.heap.size + 1, 0, none⟩ (.int .u8 (ow : Nat))).setCell ⟨w.heap.size + 1, 1, none⟩ (.int .u8 (gr : Nat))).setCell ⟨w.heap.size + 1, 2, none⟩ (.int .u8 (ot : Nat))).setCell ⟨w.heap.size + 1, 3, none⟩ (.slice A1 us.length c1)).setCell ⟨w.heap.size + 1, 4, none⟩ (.slice B1 gs.length d1)).setCell ⟨w.heap.size + 1, 5, none⟩ (.bool hm)).setCell ⟨w.heap.size + 1, 6, none⟩ (.int .u8 (ms : Nat))) = V
  have hV2 : setAll U4 (w.heap.size + 1) ⟨ow, gr, ot, us, gs, hm, ms⟩ ⟨A1, c1, B1, d1⟩ = V := hV
  have z9 := Ab.all ZZ2.out ⟨ow, gr, ot, us, gs, hm, ms⟩ ⟨A1, c1, B1, d1⟩
  have b9 := below_all (p := ⟨A1, c1, B1, d1⟩) HB4.out (Nat.le_succ w.heap.size) ⟨ow, gr, ot, us, gs, hm, ms⟩
  have c9 := HC4.out.all (b := w.heap.size + 1) ⟨ow, gr, ot, us, gs, hm, ms⟩ ⟨A1, c1, B1, d1⟩ (fun ad e => by have := HF4.out.1 ad e; omega) (fun ad e => by have := HF4.out.2 ad e; omega)
  rw [hV2] at z9 c9
  replace b9 : Below w.heap.size w V := hV2 ▸ b9
  clear hV hV2
  obtain ⟨y0, y1, y2, y3, y4, y5, y6⟩ := z9.cells
  simp only at y0 y1 y2 y3 y4 y5 y6
  exact bodyPost_ret (v := Ac.v ⟨ow, gr, ot, us, gs, hm, ms⟩ ⟨A1, c1, B1, d1⟩) (by simp [results, Try.results21, go_sem, y0, y1, y2, y3, y4, y5, y6]) rfl ⟨_, rfl, c9, b9⟩
set_option maxRecDepth 100000 in
theorem copy_calls (x : Ac) (p : Lie) (w : World) (h : Lies w x p) (hs : Sm x) : Calls Try.prog 25 #[x.v p] w fun e w' => ∃ q, e = .returned (x.v q) ∧ Copied w w' x q ∧ Below w.heap.size w w' := by
  obtain ⟨ow, gr, ot, us, gs, hm, ms⟩ := x
  obtain ⟨A, c, B, d⟩ := p
  obtain ⟨U, hU⟩ : ∃ U, U = (w.alloc (.cells #[.int .u8 (ow : Nat), .int .u8 (gr : Nat), .int .u8 (ot : Nat), .slice A us.length c, .slice B gs.length d, .bool hm, .int .u8 (ms : Nat)] 28)).alloc (.cells zC 28) := ⟨_, rfl⟩
  obtain ⟨z1, z2⟩ := Ab.two w ⟨ow, gr, ot, us, gs, hm, ms⟩ ⟨A, c, B, d⟩
  replace z1 : Ab U w.heap.size ⟨ow, gr, ot, us, gs, hm, ms⟩ ⟨A, c, B, d⟩ := by rw [hU]; exact z1
  replace z2 : Ab U (w.heap.size + 1) acZ lieZ := by rw [hU]; exact z2
  have hb : Below w.heap.size w U := by rw [hU]; exact ((Below.refl _ _).alloc (Nat.le_refl _) _).alloc (by simp) _
  have hsz : U.heap.size = w.heap.size + 2 := by rw [hU]; simp
  obtain ⟨HU, HG⟩ := h.below hb
  obtain ⟨s1, s2⟩ := hs
  simp only at HU HG s1 s2
  have H0 := Lib.hid h.gs
  clear h
  have HZ := Lib.hid hsz
  have HB := Lib.hid hb
  clear hsz hb
  go_enter Try.func25, Try.ntmps25
  go_upto_region 1 with (fail)
  rw [← hU]
  clear hU
  obtain ⟨_, _, _, y3, y4, _, _⟩ := z1.cells
  have Z1 := Lib.hid z1
  have Z2 := Lib.hid z2
  clear z1 z2
  go_upto_region 2 with (go_at_call 39; refine (clone_calls U A us c HU s1).mono ?_; rintro e w1 ⟨A1, c1, rfl, hM1, hb1⟩; have z := Z1.out.on hb1; have y3 := z.cell 3; have f3 := z.frozen 3; have HB1 := Lib.hid hb1; have HM1 := Lib.hid hM1; clear z hb1 hM1)
  clear y3 y4 f3
  obtain ⟨U2, hU2⟩ : ∃ U2, U2 = w1.setCell ⟨w.heap.size, 3, none⟩ (.slice A1 us.length c1) := ⟨_, rfl⟩
  rw [← hU2]
  have s12 := HB1.out.size
  have z1 : Ab U2 w.heap.size ⟨ow, gr, ot, us, gs, hm, ms⟩ ⟨A1, c1, B, d⟩ := by rw [hU2]; exact (Z1.out.on HB1.out).set3 A1 c1
  have z2 : Ab U2 (w.heap.size + 1) acZ lieZ := by rw [hU2]; exact (Z2.out.on HB1.out).other _ (by show w.heap.size + 1 ≠ w.heap.size; omega)
  have hb2 : Below w.heap.size w U2 := by rw [hU2]; exact (HB.out.trans (HB1.out.mono HB.out.size)).setCell (Nat.le_refl _) _
  have hb12 : U2.heap.size = w1.heap.size := by rw [hU2]; simp [World.setCell]
  have hM2 : Mine U U2 A1 us.length c1 us := by rw [hU2]; exact HM1.out.other _ (fun ad e => by have := HM1.out.2 ad e; have := HZ.out; show ad.block ≠ w.heap.size; omega)
  have hG2 : Cel U2 B (nv gs) := by rw [hU2]; exact (HG.below HB1.out).other _ (fun ad e h0 => by
    obtain ⟨ad', e', hl, _⟩ := H0.out h0
    rw [e] at e'; injection e' with e'; subst e'
    show ad.block ≠ w.heap.size; omega)
  have Z21 := Lib.hid z1
  have Z22 := Lib.hid z2
  have HB2 := Lib.hid hb2
  have HM2 := Lib.hid hM2
  have H12 := Lib.hid hb12
  have S12 := Lib.hid s12
  obtain ⟨_, _, _, y3, y4, _, _⟩ := z1.cells
  clear z1 z2 hb2 hb12 hM2 HU HG Z1 Z2 HB1 HM1 hU2 s12
  go_upto_region 3 with (go_at_call 39; refine (clone_calls U2 B gs d hG2 s2).mono ?_; rintro e w3 ⟨B1, d1, rfl, hM3, hb3⟩; have z := Z21.out.on hb3; have y4 := z.cell 4; have f4 := z.frozen 4; have HB3 := Lib.hid hb3; have HM3 := Lib.hid hM3; clear z hb3 hM3)
  clear y3 y4 f4
  obtain ⟨U4, hU4⟩ : ∃ U4, U4 = w3.setCell ⟨w.heap.size, 4, none⟩ (.slice B1 gs.length d1) := ⟨_, rfl⟩
  rw [← hU4]
  have s34 := HB3.out.size
  have z1 : Ab U4 w.heap.size ⟨ow, gr, ot, us, gs, hm, ms⟩ ⟨A1, c1, B1, d1⟩ := by rw [hU4]; exact (Z21.out.on HB3.out).set4 B1 d1
  have z2 : Ab U4 (w.heap.size + 1) acZ lieZ := by rw [hU4]; exact (Z22.out.on HB3.out).other _ (by show w.heap.size + 1 ≠ w.heap.size; omega)
  have hb4 : Below w.heap.size w U4 := by rw [hU4]; exact (HB2.out.trans (HB3.out.mono HB2.out.size)).setCell (Nat.le_refl _) _
  have hC4 : Copied w U4 ⟨ow, gr, ot, us, gs, hm, ms⟩ ⟨A1, c1, B1, d1⟩ := by
    have q0 := HZ.out
    have q1 := H12.out
    have q2 := S12.out
    have h0 : Copied w w3 ⟨ow, gr, ot, us, gs, hm, ms⟩ ⟨A1, c1, B1, d1⟩ := Copied.of (w1 := U2) (w2 := U2) (HM2.out.from (by omega)) (Below.refl _ _) HM3.out HB3.out HB2.out.size
    rw [hU4]
    exact ⟨h0.us.other _ (fun ad e => by have := HM2.out.2 ad e; show ad.block ≠ w.heap.size; omega), h0.gs.other _ (fun ad e => by have := HM3.out.2 ad e; show ad.block ≠ w.heap.size; omega), h0.ne⟩
  obtain ⟨y0, y1, y2, y3, y4, y5, y6⟩ := z1.cells
  obtain ⟨v0, v1, v2, v3, v4, v5, v6⟩ := z2.cells
  have f0 := z2.frozen 0
  have f1 := z2.frozen 1
  have f2 := z2.frozen 2
  have f3 := z2.frozen 3
  have f4 := z2.frozen 4
  have f5 := z2.frozen 5
  have f6 := z2.frozen 6
  have HB4 := Lib.hid hb4
  have HC4 := Lib.hid hC4
  have ZZ2 := Lib.hid z2
  have HF4 : Hid ((∀ ad, A1 = some ad → w.heap.size + 2 ≤ ad.block) ∧ ∀ ad, B1 = some ad → w.heap.size + 2 ≤ ad.block) := Lib.hid (by
    have q0 := HZ.out
    have q1 := H12.out
    have q2 := S12.out
    exact ⟨fun ad e => by have := HM2.out.2 ad e; omega, fun ad e => by have := HM3.out.2 ad e; omega⟩)
  clear z1 z2 hb4 hC4 Z21 Z22 HB2 HM2 H12 HB3 HM3 hU4 HB HZ S12 s34
  simp only at y0 y1 y2 y3 y4 y5 y6 v0 v1 v2 v3 v4 v5 v6
  go_wp2_with (fail)
  clear y0 y1 y2 y3 y4 y5 y6 v0 v1 v2 v3 v4 v5 v6 f0 f1 f2 f3 f4 f5 f6
  generalize hV : (((((((U4.setCell ⟨w.heap.size + 1, 0, none⟩ (.int .u8 (ow : Nat))).setCell ⟨w.heap.size + 1, 1, none⟩ (.int .u8 (gr : Nat))).setCell ⟨w.heap.size + 1, 2, none⟩ (.int .u8 (ot : Nat))).setCell ⟨w.heap.size + 1, 3, none⟩ (.slice A1 us.length c1)).setCell ⟨w.heap.size + 1, 4, none⟩ (.slice B1 gs.length d1)).setCell ⟨w.heap.size + 1, 5, none⟩ (.bool hm)).setCell ⟨w.heap.size + 1, 6, none⟩ (.int .u8 (ms : Nat))) = V
  have hV2 : setAll U4 (w.heap.size + 1) ⟨ow, gr, ot, us, gs, hm, ms⟩ ⟨A1, c1, B1, d1⟩ = V := hV
  have z9 := Ab.all ZZ2.out ⟨ow, gr, ot, us, gs, hm, ms⟩ ⟨A1, c1, B1, d1⟩
  have b9 := below_all (p := ⟨A1, c1, B1, d1⟩) HB4.out (Nat.le_succ w.heap.size) ⟨ow, gr, ot, us, gs, hm, ms⟩
  have c9 := HC4.out.all (b := w.heap.size + 1) ⟨ow, gr, ot, us, gs, hm, ms⟩ ⟨A1, c1, B1, d1⟩ (fun ad e => by have := HF4.out.1 ad e; omega) (fun ad e => by have := HF4.out.2 ad e; omega)
  rw [hV2] at z9 c9
  replace b9 : Below w.heap.size w V := hV2 ▸ b9
  clear hV hV2
  obtain ⟨y0, y1, y2, y3, y4, y5, y6⟩ := z9.cells
  simp only at y0 y1 y2 y3 y4 y5 y6
  exact bodyPost_ret (v := Ac.v ⟨ow, gr, ot, us, gs, hm, ms⟩ ⟨A1, c1, B1, d1⟩) (by simp [results, Try.results25, go_sem, y0, y1, y2, y3, y4, y5, y6]) rfl ⟨_, rfl, c9, b9⟩
end Go.Proofs.Ytgdiiicaljidpaa
/- Which lists are the same. -/
set_option linter.unusedSimpArgs false
set_option linter.unusedVariables false
namespace Go.Proofs.Ytgdiiicaljidpaa
open Go.RowKit
instance : DecidableEq Ac := fun x y => if h : x.ow = y.ow ∧ x.gr = y.gr ∧ x.ot = y.ot ∧ x.us = y.us ∧ x.gs = y.gs ∧ x.hm = y.hm ∧ x.ms = y.ms then isTrue (by
    obtain ⟨h1, h2, h3, h4, h5, h6, h7⟩ := h
    cases x; cases y
    simp only at h1 h2 h3 h4 h5 h6 h7
    rw [h1, h2, h3, h4, h5, h6, h7]) else isFalse (by rintro rfl; exact h ⟨rfl, rfl, rfl, rfl, rfl, rfl, rfl⟩)
def sameB (x y : Ac) : Bool := decide (x = y)
theorem sameB_iff {x y : Ac} : sameB x y = true ↔ x = y := decide_eq_true_iff
theorem sameB_no {x y : Ac} (h : x ≠ y) : sameB x y = false := decide_eq_false h
theorem sameB_self (x : Ac) : sameB x x = true := sameB_iff.2 rfl
set_option maxRecDepth 100000 in
set_option maxHeartbeats 2000000 in
theorem lsame_calls (x y : Ac) (p q : Lie) (w : World) (h1 : Lies w x p) (h2 : Lies w y q) (hs1 : Sm x) (hs2 : Sm y) : Calls Try.prog 49 #[x.v p, y.v q] w fun e w' => e = .returned (.bool (sameB x y)) ∧ Below w.heap.size w w' := by
  obtain ⟨ow, gr, ot, us, gs, hm, ms⟩ := x
  obtain ⟨ow2, gr2, ot2, us2, gs2, hm2, ms2⟩ := y
  obtain ⟨A, c, B, d⟩ := p
  obtain ⟨A2, c2, B2, d2⟩ := q
  have hb : Below w.heap.size w ((w.alloc (.cells #[.int .u8 (ow : Nat), .int .u8 (gr : Nat), .int .u8 (ot : Nat), .slice A us.length c, .slice B gs.length d, .bool hm, .int .u8 (ms : Nat)] 28)).alloc (.cells #[.int .u8 (ow2 : Nat), .int .u8 (gr2 : Nat), .int .u8 (ot2 : Nat), .slice A2 us2.length c2, .slice B2 gs2.length d2, .bool hm2, .int .u8 (ms2 : Nat)] 28)) := ((Below.refl _ _).alloc (Nat.le_refl _) _).alloc (by simp) _
  have k1 := h1.below hb
  have k2 := h2.below hb
  have CU := equal_calls A A2 us us2 c c2 _ k1.us k2.us hs1.us hs2.us
  have CG := fun n => equal_calls B B2 gs gs2 d d2 _ (k1.gs.drewN n) (k2.gs.drewN n) hs1.gs hs2.gs
  obtain ⟨n1, hn1⟩ : ∃ n, us.length = n := ⟨_, rfl⟩
  obtain ⟨n2, hn2⟩ : ∃ n, us2.length = n := ⟨_, rfl⟩
  obtain ⟨m1, hm1⟩ : ∃ n, gs.length = n := ⟨_, rfl⟩
  obtain ⟨m2, hm2'⟩ : ∃ n, gs2.length = n := ⟨_, rfl⟩
  have HB := Lib.hid hb
  unfold Ac.v Ac.c
  simp only [hn1, hn2, hm1, hm2'] at CU CG HB ⊢
  have CUH := Lib.hid CU
  have CGH := Lib.hid CG
  clear CU CG h1 h2 k1 k2 hs1 hs2 hn1 hn2 hm1 hm2' hb
  by_cases e0 : ow = ow2
  case neg =>
    have HV := Lib.hid (sameB_no (x := ⟨ow, gr, ot, us, gs, hm, ms⟩) (y := ⟨ow2, gr2, ot2, us2, gs2, hm2, ms2⟩) (fun h => by injection h with z0 z1 z2 z3 z4 z5 z6; exact e0 z0))
    have f : ((ow : Int) == (ow2 : Nat)) = false := by rw [beq_eq_false_iff_ne]; omega
    go_enter Try.func49, Try.ntmps49
    go_wp2_with (fail)
    go_ret
    exact ⟨by rw [HV.out]; rfl, HB.out⟩
  case pos =>
  subst e0
  by_cases e1 : gr = gr2
  case neg =>
    have HV := Lib.hid (sameB_no (x := ⟨ow, gr, ot, us, gs, hm, ms⟩) (y := ⟨ow, gr2, ot2, us2, gs2, hm2, ms2⟩) (fun h => by injection h with z0 z1 z2 z3 z4 z5 z6; exact e1 z1))
    have f : ((gr : Int) == (gr2 : Nat)) = false := by rw [beq_eq_false_iff_ne]; omega
    go_enter Try.func49, Try.ntmps49
    go_wp2_with (fail)
    go_ret
    exact ⟨by rw [HV.out]; rfl, HB.out⟩
  case pos =>
  subst e1
  by_cases e2 : ot = ot2
  case neg =>
    have HV := Lib.hid (sameB_no (x := ⟨ow, gr, ot, us, gs, hm, ms⟩) (y := ⟨ow, gr, ot2, us2, gs2, hm2, ms2⟩) (fun h => by injection h with z0 z1 z2 z3 z4 z5 z6; exact e2 z2))
    have f : ((ot : Int) == (ot2 : Nat)) = false := by rw [beq_eq_false_iff_ne]; omega
    go_enter Try.func49, Try.ntmps49
    go_wp2_with (fail)
    go_ret
    exact ⟨by rw [HV.out]; rfl, HB.out⟩
  case pos =>
  subst e2
  by_cases e3 : hm = hm2
  case neg =>
    have HV := Lib.hid (sameB_no (x := ⟨ow, gr, ot, us, gs, hm, ms⟩) (y := ⟨ow, gr, ot, us2, gs2, hm2, ms2⟩) (fun h => by injection h with z0 z1 z2 z3 z4 z5 z6; exact e3 z5))
    cases hm <;> cases hm2 <;> first | exact absurd rfl e3 | skip
    all_goals
      go_enter Try.func49, Try.ntmps49
      go_wp2_with (fail)
      go_ret
      exact ⟨by rw [HV.out]; rfl, HB.out⟩
  case pos =>
  subst e3
  by_cases e4 : ms = ms2
  case neg =>
    have HV := Lib.hid (sameB_no (x := ⟨ow, gr, ot, us, gs, hm, ms⟩) (y := ⟨ow, gr, ot, us2, gs2, hm, ms2⟩) (fun h => by injection h with z0 z1 z2 z3 z4 z5 z6; exact e4 z6))
    have f : ((ms : Int) == (ms2 : Nat)) = false := by rw [beq_eq_false_iff_ne]; omega
    go_enter Try.func49, Try.ntmps49
    go_wp2_with (fail)
    go_ret
    exact ⟨by rw [HV.out]; rfl, HB.out⟩
  case pos =>
  subst e4
  cases hu : rowsB us us2
  case false =>
    have HV := Lib.hid (sameB_no (x := ⟨ow, gr, ot, us, gs, hm, ms⟩) (y := ⟨ow, gr, ot, us2, gs2, hm, ms⟩) (fun h => by injection h with z0 z1 z2 z3 z4 z5 z6; rw [z3, rowsB_self] at hu; cases hu))
    have CU := CUH.out
    rw [hu] at CU
    go_enter Try.func49, Try.ntmps49
    go_wp2_with (fail)
    refine CU.mono ?_
    rintro e w1 ⟨rfl, q1, rfl⟩
    go_wp2_with (fail)
    go_ret
    exact ⟨by rw [HV.out]; rfl, below_drewN HB.out _⟩
  case true =>
  have HV : Hid (sameB ⟨ow, gr, ot, us, gs, hm, ms⟩ ⟨ow, gr, ot, us2, gs2, hm, ms⟩ = rowsB gs gs2) := Lib.hid (by
    have h := rowsB_iff.1 hu
    subst h
    cases hg : rowsB gs gs2
    · exact sameB_no fun h => by injection h with z0 z1 z2 z3 z4 z5 z6; rw [z4, rowsB_self] at hg; cases hg
    · rw [rowsB_iff.1 hg]; exact sameB_self _)
  have CU := CUH.out
  rw [hu] at CU
  go_enter Try.func49, Try.ntmps49
  go_wp2_with (fail)
  refine CU.mono ?_
  rintro e w1 ⟨rfl, q1, rfl⟩
  go_wp2_with (fail)
  refine (CGH.out _).mono ?_
  rintro e w2 ⟨rfl, q2, rfl⟩
  go_wp2_with (fail)
  go_ret
  exact ⟨by rw [HV.out]; rfl, by first | exact below_drewN HB.out _ | exact below_drewN (below_drewN HB.out _) _⟩
set_option maxRecDepth 100000 in
set_option maxHeartbeats 2000000 in
theorem rlsame_calls (x y : Ac) (p q : Lie) (w : World) (h1 : Lies w x p) (h2 : Lies w y q) (hs1 : Sm x) (hs2 : Sm y) : Calls Try.prog 16 #[x.v p, y.v q] w fun e w' => e = .returned (.bool (sameB x y)) ∧ Below w.heap.size w w' := by
  obtain ⟨ow, gr, ot, us, gs, hm, ms⟩ := x
  obtain ⟨ow2, gr2, ot2, us2, gs2, hm2, ms2⟩ := y
  obtain ⟨A, c, B, d⟩ := p
  obtain ⟨A2, c2, B2, d2⟩ := q
  have hb : Below w.heap.size w ((w.alloc (.cells #[.int .u8 (ow : Nat), .int .u8 (gr : Nat), .int .u8 (ot : Nat), .slice A us.length c, .slice B gs.length d, .bool hm, .int .u8 (ms : Nat)] 28)).alloc (.cells #[.int .u8 (ow2 : Nat), .int .u8 (gr2 : Nat), .int .u8 (ot2 : Nat), .slice A2 us2.length c2, .slice B2 gs2.length d2, .bool hm2, .int .u8 (ms2 : Nat)] 28)) := ((Below.refl _ _).alloc (Nat.le_refl _) _).alloc (by simp) _
  have k1 := h1.below hb
  have k2 := h2.below hb
  have CU := rsame_calls A A2 us us2 c c2 _ k1.us k2.us hs1.us hs2.us
  have CG := fun n => rsame_calls B B2 gs gs2 d d2 _ (k1.gs.drewN n) (k2.gs.drewN n) hs1.gs hs2.gs
  obtain ⟨n1, hn1⟩ : ∃ n, us.length = n := ⟨_, rfl⟩
  obtain ⟨n2, hn2⟩ : ∃ n, us2.length = n := ⟨_, rfl⟩
  obtain ⟨m1, hm1⟩ : ∃ n, gs.length = n := ⟨_, rfl⟩
  obtain ⟨m2, hm2'⟩ : ∃ n, gs2.length = n := ⟨_, rfl⟩
  have HB := Lib.hid hb
  unfold Ac.v Ac.c
  simp only [hn1, hn2, hm1, hm2'] at CU CG HB ⊢
  have CUH := Lib.hid CU
  have CGH := Lib.hid CG
  clear CU CG h1 h2 k1 k2 hs1 hs2 hn1 hn2 hm1 hm2' hb
  by_cases e0 : ow = ow2
  case neg =>
    have HV := Lib.hid (sameB_no (x := ⟨ow, gr, ot, us, gs, hm, ms⟩) (y := ⟨ow2, gr2, ot2, us2, gs2, hm2, ms2⟩) (fun h => by injection h with z0 z1 z2 z3 z4 z5 z6; exact e0 z0))
    have f : ((ow : Int) == (ow2 : Nat)) = false := by rw [beq_eq_false_iff_ne]; omega
    go_enter Try.func16, Try.ntmps16
    go_wp2_with (fail)
    go_ret
    exact ⟨by rw [HV.out]; rfl, HB.out⟩
  case pos =>
  subst e0
  by_cases e1 : gr = gr2
  case neg =>
    have HV := Lib.hid (sameB_no (x := ⟨ow, gr, ot, us, gs, hm, ms⟩) (y := ⟨ow, gr2, ot2, us2, gs2, hm2, ms2⟩) (fun h => by injection h with z0 z1 z2 z3 z4 z5 z6; exact e1 z1))
    have f : ((gr : Int) == (gr2 : Nat)) = false := by rw [beq_eq_false_iff_ne]; omega
    go_enter Try.func16, Try.ntmps16
    go_wp2_with (fail)
    go_ret
    exact ⟨by rw [HV.out]; rfl, HB.out⟩
  case pos =>
  subst e1
  by_cases e2 : ot = ot2
  case neg =>
    have HV := Lib.hid (sameB_no (x := ⟨ow, gr, ot, us, gs, hm, ms⟩) (y := ⟨ow, gr, ot2, us2, gs2, hm2, ms2⟩) (fun h => by injection h with z0 z1 z2 z3 z4 z5 z6; exact e2 z2))
    have f : ((ot : Int) == (ot2 : Nat)) = false := by rw [beq_eq_false_iff_ne]; omega
    go_enter Try.func16, Try.ntmps16
    go_wp2_with (fail)
    go_ret
    exact ⟨by rw [HV.out]; rfl, HB.out⟩
  case pos =>
  subst e2
  by_cases e3 : hm = hm2
  case neg =>
    have HV := Lib.hid (sameB_no (x := ⟨ow, gr, ot, us, gs, hm, ms⟩) (y := ⟨ow, gr, ot, us2, gs2, hm2, ms2⟩) (fun h => by injection h with z0 z1 z2 z3 z4 z5 z6; exact e3 z5))
    cases hm <;> cases hm2 <;> first | exact absurd rfl e3 | skip
    all_goals
      go_enter Try.func16, Try.ntmps16
      go_wp2_with (fail)
      go_ret
      exact ⟨by rw [HV.out]; rfl, HB.out⟩
  case pos =>
  subst e3
  by_cases e4 : ms = ms2
  case neg =>
    have HV := Lib.hid (sameB_no (x := ⟨ow, gr, ot, us, gs, hm, ms⟩) (y := ⟨ow, gr, ot, us2, gs2, hm, ms2⟩) (fun h => by injection h with z0 z1 z2 z3 z4 z5 z6; exact e4 z6))
    have f : ((ms : Int) == (ms2 : Nat)) = false := by rw [beq_eq_false_iff_ne]; omega
    go_enter Try.func16, Try.ntmps16
    go_wp2_with (fail)
    go_ret
    exact ⟨by rw [HV.out]; rfl, HB.out⟩
  case pos =>
  subst e4
  cases hu : rowsB us us2
  case false =>
    have HV := Lib.hid (sameB_no (x := ⟨ow, gr, ot, us, gs, hm, ms⟩) (y := ⟨ow, gr, ot, us2, gs2, hm, ms⟩) (fun h => by injection h with z0 z1 z2 z3 z4 z5 z6; rw [z3, rowsB_self] at hu; cases hu))
    have CU := CUH.out
    rw [hu] at CU
    go_enter Try.func16, Try.ntmps16
    go_wp2_with (fail)
    refine CU.mono ?_
    rintro e w1 ⟨rfl, q1, rfl⟩
    go_wp2_with (fail)
    go_ret
    exact ⟨by rw [HV.out]; rfl, below_drewN HB.out _⟩
  case true =>
  have HV : Hid (sameB ⟨ow, gr, ot, us, gs, hm, ms⟩ ⟨ow, gr, ot, us2, gs2, hm, ms⟩ = rowsB gs gs2) := Lib.hid (by
    have h := rowsB_iff.1 hu
    subst h
    cases hg : rowsB gs gs2
    · exact sameB_no fun h => by injection h with z0 z1 z2 z3 z4 z5 z6; rw [z4, rowsB_self] at hg; cases hg
    · rw [rowsB_iff.1 hg]; exact sameB_self _)
  have CU := CUH.out
  rw [hu] at CU
  go_enter Try.func16, Try.ntmps16
  go_wp2_with (fail)
  refine CU.mono ?_
  rintro e w1 ⟨rfl, q1, rfl⟩
  go_wp2_with (fail)
  refine (CGH.out _).mono ?_
  rintro e w2 ⟨rfl, q2, rfl⟩
  go_wp2_with (fail)
  go_ret
  exact ⟨by rw [HV.out]; rfl, by first | exact below_drewN HB.out _ | exact below_drewN (below_drewN HB.out _) _⟩
end Go.Proofs.Ytgdiiicaljidpaa
/- Which lists may be. -/
set_option linter.unusedSimpArgs false
set_option linter.unusedVariables false
namespace Go.Proofs.Ytgdiiicaljidpaa
open Go.RowKit Go.Sort Go.Lib
abbrev nmv (p : Nm) : Value := .agg #[.int .u16 (p.id : Nat), .int .u8 (p.pm : Nat)]
theorem pm_calls (i m : Nat) (w : World) : Calls Try.prog 53 #[.agg #[.int .u16 (i : Nat), .int .u8 (m : Nat)]] w fun e w' => e = .returned (.bool (decide ((m : Int) ≤ 7))) ∧ Below w.heap.size w w' := by
  go_enter Try.func53, Try.ntmps53
  go_wp2_with (fail)
  go_ret
  exact ⟨rfl, (Below.refl _ _).alloc (Nat.le_refl _) _⟩
theorem id_calls (i m : Nat) (w : World) : Calls Try.prog 54 #[.agg #[.int .u16 (i : Nat), .int .u8 (m : Nat)]] w fun e w' => e = .returned (.int .u16 (i : Nat)) ∧ Below w.heap.size w w' := by
  go_enter Try.func54, Try.ntmps54
  go_wp2_with (fail)
  go_ret
  exact ⟨rfl, (Below.refl _ _).alloc (Nat.le_refl _) _⟩
theorem two_cells {w0 : World} {B : Nat} {x y : Value} {t : TypeId} (hw : w0.heap[B]? = some (.cells #[x, y] t (0, 0))) :
    w0.cell? ⟨B, 0, none⟩ = some x ∧ w0.cell? ⟨B, 1, none⟩ = some y :=
  ⟨cell_of_row w0 B 0 _ t (0, 0) hw, cell_of_row w0 B 1 _ t (0, 0) hw⟩
abbrev mayF : Value := .func (.func 53) #[] #[]
abbrev idF : Value := .func (.func 54) #[] #[]
theorem below_alloc1 {w V : World} {o : Obj} (h : Below w.heap.size w V) : Below w.heap.size w (V.alloc o) := h.alloc h.size o
set_option maxRecDepth 100000 in
set_option maxHeartbeats 4000000 in
theorem fits_calls (A : Option Addr) (L : List Nm) (c : Nat) (w : World) (hc : Cel w A (nv L)) :
    Calls Try.prog 52 #[.slice A L.length c, .int .i64 4, mayF, idF] w fun e w' => e = .returned (.bool (namedB L)) ∧ Below w.heap.size w w' := by
  obtain ⟨n, hn⟩ : ∃ n, L.length = n := ⟨_, rfl⟩
  have HN := Lib.hid hn
  rw [hn]
  clear hn
  by_cases h4 : n ≤ 4
  case neg =>
    have HV := Lib.hid (namedB_long (L := L) (by have := HN.out; omega))
    have h4' : (4 : Int) < (n : Int) := by omega
    go_enter Try.func52, Try.ntmps52
    go_wp2_with (fail)
    go_ret
    exact ⟨by rw [HV.out]; rfl, Below.refl _ _⟩
  case pos =>
  have h4' : ¬ (4 : Int) < (n : Int) := by omega
  go_enter Try.func52, Try.ntmps52
  go_wp2_with (fail)
  go_loopw [17] (fun i wr => ∃ k : Nat, i = .int .i64 k ∧ k ≤ n ∧ Hid (Rise L k) ∧ Below w.heap.size w wr) (fun i _ => n - (intOf i).toNat)
  case atStart => exact ⟨0, rfl, by omega, Lib.hid (Rise.zero L), Below.refl _ _⟩
  case round =>
    obtain ⟨k, rfl, hk, hR, hbw⟩ := hrel
    by_cases hkn : k < n
    · obtain ⟨b, o, rfl, hlt, hcell⟩ := (hc.below hbw).nm (by rw [HN.out]; omega)
      obtain ⟨p, hp⟩ : ∃ p, L[k]? = some p := ⟨_, List.getElem?_eq_getElem (by rw [HN.out]; exact hkn)⟩
      obtain ⟨e1, e2⟩ := hcell k p hp
      have HP := Lib.hid hp
      have HBW := Lib.hid hbw
      clear hp hbw
      generalize hpi : p.id = pi at *
      generalize hpp : p.pm = pp at *
      have HPI := Lib.hid hpi
      have HPP := Lib.hid hpp
      clear hpi hpp
      by_cases h7 : pp ≤ 7
      · have h7' : decide ((pp : Int) ≤ 7) = true := decide_eq_true (by omega)
        cases k with
        | zero =>
          have HR2 := Lib.hid (Rise.first HP.out (by have := HPP.out; omega))
          simp only [Nat.zero_mul, Nat.add_zero] at e1 e2
          clear hcell
          go_wp2_with (fail)
          obtain ⟨V, hV⟩ : ∃ V, V = wr.alloc (Obj.cells #[.int .u16 (pi : Nat), .int .u8 (pp : Nat)] 53) := ⟨_, rfl⟩
          rw [← hV]
          have hAB : Below wr.heap.size wr V := by rw [hV]; exact (Below.refl _ _).alloc (Nat.le_refl _) _
          have HBV := Lib.hid (HBW.out.trans (hAB.mono HBW.out.size))
          obtain ⟨q0, q1⟩ := two_cells (w0 := V) (B := wr.heap.size) (x := .int .u16 (pi : Nat)) (y := .int .u8 (pp : Nat)) (t := 53) (by rw [hV]; exact heap_alloc_new _ _)
          have k0 := cell_regrown q0
          have k1 := cell_regrown q1
          have cM : ∀ dq os, Calls Try.prog 53 #[.agg #[.int .u16 (pi : Nat), .int .u8 (pp : Nat)]] (grow (redrawn V dq) os) fun e w'' => e = .returned (.bool true) ∧ ∃ p : Regrown, w'' = grow (redrawn V p.d) p.os := fun dq os => Calls.regrown_of (h7' ▸ pm_calls pi pp _)
          clear hV hAB e1 e2 q0 q1
          refine wp_region_quiet_below (by kernel_rfl) (by kernel_rfl) ?_
          repeat (first | go_big_quiet_step (first | exact cM _ _) | quiet_step (first | exact cM _ _))
          refine wpQuiet_nil ?_
          intro _ hw'
          obtain ⟨⟨dq, osq⟩, hw''⟩ := hw'
          subst hw''
          go_wp2_with (fail)
          go_roundw
          case rel => exact ⟨1, by go_num, by omega, HR2, HBV.out.trans ((below_regrown V dq osq).mono HBV.out.size)⟩
          case measure => simp [intOf]; omega
        | succ k =>
          obtain ⟨r, hr⟩ : ∃ r, L[k]? = some r := ⟨_, List.getElem?_eq_getElem (by rw [HN.out]; omega)⟩
          obtain ⟨e3, e4⟩ := hcell k r hr
          have HR1 := Lib.hid hr
          generalize hri : r.id = ri at *
          generalize hrp : r.pm = rp at *
          have HRI := Lib.hid hri
          clear hcell hr hri hrp
          have h0 : decide ((0 : Int) < ((k + 1 : Nat) : Int)) = true := by rw [decide_eq_true_eq]; omega
          have h0' : decide ((0 : Int) < (k : Int) + 1) = true := by rw [decide_eq_true_eq]; omega
          have hk1 : (k : Int) + 1 - 1 = (k : Int) := by omega
          go_wp2_with (fail)
          obtain ⟨V, hV⟩ : ∃ V, V = wr.alloc (Obj.cells #[.int .u16 (pi : Nat), .int .u8 (pp : Nat)] 53) := ⟨_, rfl⟩
          rw [← hV]
          have hAB : Below wr.heap.size wr V := by rw [hV]; exact (Below.refl _ _).alloc (Nat.le_refl _) _
          have HBV := Lib.hid (HBW.out.trans (hAB.mono HBW.out.size))
          obtain ⟨q0, q1⟩ := two_cells (w0 := V) (B := wr.heap.size) (x := .int .u16 (pi : Nat)) (y := .int .u8 (pp : Nat)) (t := 53) (by rw [hV]; exact heap_alloc_new _ _)
          have k0 := cell_regrown q0
          have k1 := cell_regrown q1
          have cM : ∀ dq os, Calls Try.prog 53 #[.agg #[.int .u16 (pi : Nat), .int .u8 (pp : Nat)]] (grow (redrawn V dq) os) fun e w'' => e = .returned (.bool true) ∧ ∃ p : Regrown, w'' = grow (redrawn V p.d) p.os := fun dq os => Calls.regrown_of (h7' ▸ pm_calls pi pp _)
          have cI : ∀ dq os, Calls Try.prog 54 #[.agg #[.int .u16 (pi : Nat), .int .u8 (pp : Nat)]] (grow (redrawn V dq) os) fun e w'' => e = .returned (.int .u16 (pi : Nat)) ∧ ∃ p : Regrown, w'' = grow (redrawn V p.d) p.os := fun dq os => Calls.regrown_of (id_calls pi pp _)
          have cJ : ∀ dq os, Calls Try.prog 54 #[.agg #[.int .u16 (ri : Nat), .int .u8 (rp : Nat)]] (grow (redrawn V dq) os) fun e w'' => e = .returned (.int .u16 (ri : Nat)) ∧ ∃ p : Regrown, w'' = grow (redrawn V p.d) p.os := fun dq os => Calls.regrown_of (id_calls ri rp _)
          have g3 := (hAB.cell (p := ⟨b, o + k * 2, none⟩) hlt).trans e3
          have g4 := (hAB.cell (p := ⟨b, o + k * 2 + 1, none⟩) hlt).trans e4
          have k2 := cell_regrown g3
          have k3 := cell_regrown g4
          clear hV hAB e1 e2 e3 e4 g3 g4 q0 q1
          by_cases hid : ri < pi
          · have hid' : decide ((pi : Int) ≤ (ri : Int)) = false := by rw [decide_eq_false_iff_not]; omega
            have HR2 := Lib.hid (hR.out.more HR1.out HP.out (by have := HPP.out; omega) (by have := HPI.out; have := HRI.out; omega))
            refine wp_region_quiet_below (by kernel_rfl) (by kernel_rfl) ?_
            repeat (first | go_big_quiet_step (first | exact cM _ _ | exact cI _ _ | exact cJ _ _) | quiet_step (first | exact cM _ _ | exact cI _ _ | exact cJ _ _))
            refine wpQuiet_nil ?_
            intro _ hw'
            obtain ⟨⟨dq, osq⟩, hw''⟩ := hw'
            subst hw''
            go_wp2_with (fail)
            go_roundw
            case rel => exact ⟨k + 2, by go_num, by omega, HR2, HBV.out.trans ((below_regrown V dq osq).mono HBV.out.size)⟩
            case measure => simp [intOf]; omega
          · have hid' : decide ((pi : Int) ≤ (ri : Int)) = true := by rw [decide_eq_true_eq]; omega
            have HV := Lib.hid (namedB_id HR1.out HP.out (by have := HPI.out; have := HRI.out; omega))
            refine wp_region_quiet_below (by kernel_rfl) (by kernel_rfl) ?_
            repeat (first | go_big_quiet_step (first | exact cM _ _ | exact cI _ _ | exact cJ _ _) | quiet_step (first | exact cM _ _ | exact cI _ _ | exact cJ _ _))
            refine wpQuiet_nil ?_
            intro _ hw'
            obtain ⟨⟨dq, osq⟩, hw''⟩ := hw'
            subst hw''
            go_wp2_with (fail)
            go_ret
            exact ⟨by rw [HV.out]; rfl, HBV.out.trans ((below_regrown V dq osq).mono HBV.out.size)⟩
      · have h7' : decide ((pp : Int) ≤ 7) = false := decide_eq_false (by omega)
        have HV := Lib.hid (namedB_pm HP.out (by have := HPP.out; omega))
        cases k with
        | zero =>
          simp only [Nat.zero_mul, Nat.add_zero] at e1 e2
          clear hcell
          go_wp2_with (fail)
          obtain ⟨V, hV⟩ : ∃ V, V = wr.alloc (Obj.cells #[.int .u16 (pi : Nat), .int .u8 (pp : Nat)] 53) := ⟨_, rfl⟩
          rw [← hV]
          have hAB : Below wr.heap.size wr V := by rw [hV]; exact (Below.refl _ _).alloc (Nat.le_refl _) _
          have HBV := Lib.hid (HBW.out.trans (hAB.mono HBW.out.size))
          obtain ⟨q0, q1⟩ := two_cells (w0 := V) (B := wr.heap.size) (x := .int .u16 (pi : Nat)) (y := .int .u8 (pp : Nat)) (t := 53) (by rw [hV]; exact heap_alloc_new _ _)
          have k0 := cell_regrown q0
          have k1 := cell_regrown q1
          have cM : ∀ dq os, Calls Try.prog 53 #[.agg #[.int .u16 (pi : Nat), .int .u8 (pp : Nat)]] (grow (redrawn V dq) os) fun e w'' => e = .returned (.bool false) ∧ ∃ p : Regrown, w'' = grow (redrawn V p.d) p.os := fun dq os => Calls.regrown_of (h7' ▸ pm_calls pi pp _)
          clear hV hAB e1 e2 q0 q1
          refine wp_region_quiet_below (by kernel_rfl) (by kernel_rfl) ?_
          repeat (first | go_big_quiet_step (first | exact cM _ _) | quiet_step (first | exact cM _ _))
          refine wpQuiet_nil ?_
          intro _ hw'
          obtain ⟨⟨dq, osq⟩, hw''⟩ := hw'
          subst hw''
          go_wp2_with (fail)
          go_ret
          exact ⟨by rw [HV.out]; rfl, HBV.out.trans ((below_regrown V dq osq).mono HBV.out.size)⟩
        | succ k =>
          clear hcell
          go_wp2_with (fail)
          obtain ⟨V, hV⟩ : ∃ V, V = wr.alloc (Obj.cells #[.int .u16 (pi : Nat), .int .u8 (pp : Nat)] 53) := ⟨_, rfl⟩
          rw [← hV]
          have hAB : Below wr.heap.size wr V := by rw [hV]; exact (Below.refl _ _).alloc (Nat.le_refl _) _
          have HBV := Lib.hid (HBW.out.trans (hAB.mono HBW.out.size))
          obtain ⟨q0, q1⟩ := two_cells (w0 := V) (B := wr.heap.size) (x := .int .u16 (pi : Nat)) (y := .int .u8 (pp : Nat)) (t := 53) (by rw [hV]; exact heap_alloc_new _ _)
          have k0 := cell_regrown q0
          have k1 := cell_regrown q1
          have cM : ∀ dq os, Calls Try.prog 53 #[.agg #[.int .u16 (pi : Nat), .int .u8 (pp : Nat)]] (grow (redrawn V dq) os) fun e w'' => e = .returned (.bool false) ∧ ∃ p : Regrown, w'' = grow (redrawn V p.d) p.os := fun dq os => Calls.regrown_of (h7' ▸ pm_calls pi pp _)
          clear hV hAB e1 e2 q0 q1
          refine wp_region_quiet_below (by kernel_rfl) (by kernel_rfl) ?_
          repeat (first | go_big_quiet_step (first | exact cM _ _) | quiet_step (first | exact cM _ _))
          refine wpQuiet_nil ?_
          intro _ hw'
          obtain ⟨⟨dq, osq⟩, hw''⟩ := hw'
          subst hw''
          go_wp2_with (fail)
          go_ret
          exact ⟨by rw [HV.out]; rfl, HBV.out.trans ((below_regrown V dq osq).mono HBV.out.size)⟩
    · obtain rfl : k = n := by omega
      have HV : Hid (namedB L = true) := Lib.hid (namedB_yes (by have h := hR.out; rw [← HN.out] at h; exact h) (by rw [HN.out]; exact h4))
      go_wp2_with (fail)
      go_ret
      exact ⟨by rw [HV.out]; rfl, hbw⟩
end Go.Proofs.Ytgdiiicaljidpaa
/- Which lists may be; which are too large for a statement. -/
set_option linter.unusedSimpArgs false
set_option linter.unusedVariables false
namespace Go.Proofs.Ytgdiiicaljidpaa
open Go.RowKit
/-- Such a list may be. -/
structure May (x : Ac) : Prop where
  ow : x.ow ≤ 7
  gr : x.gr ≤ 7
  ot : x.ot ≤ 7
  ms : x.ms ≤ 7
  us : namedB x.us = true
  gs : namedB x.gs = true
  small : x.hm = false → x.ms = 0 ∧ x.us.length = 0 ∧ x.gs.length = 0
def mayB (x : Ac) : Bool := decide (x.ow ≤ 7) && (decide (x.gr ≤ 7) && (decide (x.ot ≤ 7) && (decide (x.ms ≤ 7) && (namedB x.us && (namedB x.gs && (x.hm || (decide (x.ms = 0) && (decide (x.us.length = 0) && decide (x.gs.length = 0)))))))))
theorem mayB_iff {x : Ac} : mayB x = true ↔ May x := by
  unfold mayB
  simp only [Bool.and_eq_true, Bool.or_eq_true, decide_eq_true_eq]
  constructor
  · rintro ⟨h1, h2, h3, h4, h5, h6, h7⟩
    exact ⟨h1, h2, h3, h4, h5, h6, fun h => by
      rcases h7 with h7 | h7
      · rw [h] at h7; cases h7
      · exact h7⟩
  · intro h
    refine ⟨h.ow, h.gr, h.ot, h.ms, h.us, h.gs, ?_⟩
    cases hm : x.hm
    · exact .inr (h.small hm)
    · exact .inl rfl
theorem mayB_no {x : Ac} (h : ¬ May x) : mayB x = false := by
  cases hb : mayB x
  · rfl
  · exact absurd (mayB_iff.1 hb) h
/-- Its rows are no longer than a slice may be. -/
structure Bg (x : Ac) : Prop where
  us : x.us.length ≤ 9223372036854775807
  gs : x.gs.length ≤ 9223372036854775807
theorem sm_of_small {x : Ac} (h : (decide (100 < x.us.length) || decide (100 < x.gs.length)) = false) : Sm x := by
  rw [Bool.or_eq_false_iff, decide_eq_false_iff_not, decide_eq_false_iff_not] at h
  exact ⟨by omega, by omega⟩
theorem large_calls (x : Ac) (p : Lie) (w : World) (hs : Bg x) : Calls Try.prog 35 #[x.v p] w fun e w' => e = .returned (.bool (decide (100 < x.us.length) || decide (100 < x.gs.length))) ∧ Below w.heap.size w w' := by
  obtain ⟨h1, h2⟩ := hs
  obtain ⟨n, hn⟩ : ∃ n, x.us.length = n := ⟨_, rfl⟩
  obtain ⟨m, hm⟩ : ∃ m, x.gs.length = m := ⟨_, rfl⟩
  unfold Ac.v Ac.c
  rw [hn, hm]
  rw [hn] at h1
  rw [hm] at h2
  clear hn hm
  by_cases c1 : 100 < n
  · have d1 : decide ((100 : Int) < (n : Int)) = true := by rw [decide_eq_true_eq]; omega
    go_enter Try.func35, Try.ntmps35
    go_wp2_with (fail)
    go_ret
    exact ⟨by simp [c1], (Below.refl _ _).alloc (Nat.le_refl _) _⟩
  · have d1 : decide ((100 : Int) < (n : Int)) = false := by rw [decide_eq_false_iff_not]; omega
    have d2 : decide ((100 : Int) < (m : Int)) = decide (100 < m) := by rw [decide_eq_decide]; omega
    go_enter Try.func35, Try.ntmps35
    go_wp2_with (fail)
    go_ret
    exact ⟨by simp [c1, d2], (Below.refl _ _).alloc (Nat.le_refl _) _⟩
set_option maxRecDepth 100000 in
set_option maxHeartbeats 2000000 in
theorem rmay_calls (x : Ac) (p : Lie) (w : World) (h : Lies w x p) (hs : Sm x) : Calls Try.prog 32 #[x.v p] w fun e w' => e = .returned (.bool (mayB x)) ∧ Below w.heap.size w w' := by
  obtain ⟨ow, gr, ot, us, gs, hm, ms⟩ := x
  obtain ⟨A, c, B, d⟩ := p
  obtain ⟨hus, hgs⟩ := h
  obtain ⟨s1, s2⟩ := hs
  simp only at hus hgs s1 s2
  unfold Ac.v Ac.c
  simp only
  obtain ⟨n, hn⟩ : ∃ n, us.length = n := ⟨_, rfl⟩
  obtain ⟨m, hm'⟩ : ∃ m, gs.length = m := ⟨_, rfl⟩
  rw [hn, hm']
  have hb0 : Below w.heap.size w (w.alloc (.cells #[.int .u8 (ow : Nat), .int .u8 (gr : Nat), .int .u8 (ot : Nat), .slice A n c, .slice B m d, .bool hm, .int .u8 (ms : Nat)] 28)) := (Below.refl _ _).alloc (Nat.le_refl _) _
  have HU := Lib.hid (hus.below hb0)
  have HG := Lib.hid (hgs.below hb0)
  have HB := Lib.hid hb0
  have s1' : n ≤ 1099511627776 := by omega
  have s2' : m ≤ 1099511627776 := by omega
  have S1 := Lib.hid s1
  have S2 := Lib.hid s2
  have HN := Lib.hid hn
  have HM := Lib.hid hm'
  clear hb0 hus hgs s1 s2 hn hm'
  by_cases t0 : ow ≤ 7
  case neg =>
    have HV : Hid (mayB ⟨ow, gr, ot, us, gs, hm, ms⟩ = false) := Lib.hid (mayB_no fun h => t0 h.ow)
    have b0 : decide ((7 : Int) < (ow : Int)) = true := by rw [decide_eq_true_eq]; omega
    go_enter Try.func32, Try.ntmps32
    go_wp2_with (fail)
    go_ret
    exact ⟨by rw [HV.out]; rfl, HB.out⟩
  case pos =>
  by_cases t1 : gr ≤ 7
  case neg =>
    have HV : Hid (mayB ⟨ow, gr, ot, us, gs, hm, ms⟩ = false) := Lib.hid (mayB_no fun h => t1 h.gr)
    have b0 : decide ((7 : Int) < (ow : Int)) = false := by rw [decide_eq_false_iff_not]; omega
    have b1 : decide ((7 : Int) < (gr : Int)) = true := by rw [decide_eq_true_eq]; omega
    go_enter Try.func32, Try.ntmps32
    go_wp2_with (fail)
    go_ret
    exact ⟨by rw [HV.out]; rfl, HB.out⟩
  case pos =>
  by_cases t2 : ot ≤ 7
  case neg =>
    have HV : Hid (mayB ⟨ow, gr, ot, us, gs, hm, ms⟩ = false) := Lib.hid (mayB_no fun h => t2 h.ot)
    have b0 : decide ((7 : Int) < (ow : Int)) = false := by rw [decide_eq_false_iff_not]; omega
    have b1 : decide ((7 : Int) < (gr : Int)) = false := by rw [decide_eq_false_iff_not]; omega
    have b2 : decide ((7 : Int) < (ot : Int)) = true := by rw [decide_eq_true_eq]; omega
    go_enter Try.func32, Try.ntmps32
    go_wp2_with (fail)
    go_ret
    exact ⟨by rw [HV.out]; rfl, HB.out⟩
  case pos =>
  by_cases t3 : ms ≤ 7
  case neg =>
    have HV : Hid (mayB ⟨ow, gr, ot, us, gs, hm, ms⟩ = false) := Lib.hid (mayB_no fun h => t3 h.ms)
    have b0 : decide ((7 : Int) < (ow : Int)) = false := by rw [decide_eq_false_iff_not]; omega
    have b1 : decide ((7 : Int) < (gr : Int)) = false := by rw [decide_eq_false_iff_not]; omega
    have b2 : decide ((7 : Int) < (ot : Int)) = false := by rw [decide_eq_false_iff_not]; omega
    have b3 : decide ((7 : Int) < (ms : Int)) = true := by rw [decide_eq_true_eq]; omega
    go_enter Try.func32, Try.ntmps32
    go_wp2_with (fail)
    go_ret
    exact ⟨by rw [HV.out]; rfl, HB.out⟩
  case pos =>
  have b0 : decide ((7 : Int) < (ow : Int)) = false := by rw [decide_eq_false_iff_not]; omega
  have b1 : decide ((7 : Int) < (gr : Int)) = false := by rw [decide_eq_false_iff_not]; omega
  have b2 : decide ((7 : Int) < (ot : Int)) = false := by rw [decide_eq_false_iff_not]; omega
  have b3 : decide ((7 : Int) < (ms : Int)) = false := by rw [decide_eq_false_iff_not]; omega
  have CU := rnamed_calls A us c _ HU.out S1.out
  rw [HN.out] at CU
  have CG := fun q => rnamed_calls B gs d _ (HG.out.drewN q) S2.out
  rw [HM.out] at CG
  cases hu : namedB us
  case false =>
    have HV : Hid (mayB ⟨ow, gr, ot, us, gs, hm, ms⟩ = false) := Lib.hid (mayB_no fun h => by have := h.us; simp [hu] at this)
    rw [hu] at CU
    clear CG
    go_enter Try.func32, Try.ntmps32
    go_wp2_with (fail)
    refine CU.mono ?_
    rintro e w1 ⟨rfl, q1, rfl⟩
    go_wp2_with (fail)
    go_ret
    exact ⟨by rw [HV.out]; rfl, below_drewN HB.out _⟩
  case true =>
  rw [hu] at CU
  cases hg : namedB gs
  case false =>
    have HV : Hid (mayB ⟨ow, gr, ot, us, gs, hm, ms⟩ = false) := Lib.hid (mayB_no fun h => by have := h.gs; simp [hg] at this)
    rw [hg] at CG
    go_enter Try.func32, Try.ntmps32
    go_wp2_with (fail)
    refine CU.mono ?_
    rintro e w1 ⟨rfl, q1, rfl⟩
    go_wp2_with (fail)
    refine (CG _).mono ?_
    rintro e w2 ⟨rfl, q2, rfl⟩
    go_wp2_with (fail)
    go_ret
    exact ⟨by rw [HV.out]; rfl, by first | exact below_drewN HB.out _ | exact below_drewN (below_drewN HB.out _) _⟩
  case true =>
  rw [hg] at CG
  cases hm
  case true =>
    have HV : Hid (mayB ⟨ow, gr, ot, us, gs, true, ms⟩ = true) := Lib.hid (mayB_iff.2 ⟨t0, t1, t2, t3, hu, hg, fun h => by cases h⟩)
    go_enter Try.func32, Try.ntmps32
    go_wp2_with (fail)
    refine CU.mono ?_
    rintro e w1 ⟨rfl, q1, rfl⟩
    go_wp2_with (fail)
    refine (CG _).mono ?_
    rintro e w2 ⟨rfl, q2, rfl⟩
    go_wp2_with (fail)
    go_ret
    exact ⟨by rw [HV.out]; rfl, by first | exact below_drewN HB.out _ | exact below_drewN (below_drewN HB.out _) _⟩
  case false =>
  by_cases z0 : ms = 0
  case neg =>
    have HV : Hid (mayB ⟨ow, gr, ot, us, gs, false, ms⟩ = false) := Lib.hid (mayB_no fun h => by have := h.small rfl; have := HN.out; have := HM.out; simp only at *; omega)
    have y0 : ((ms : Int) == 0) = false := by rw [beq_eq_false_iff_ne]; omega
    go_enter Try.func32, Try.ntmps32
    go_wp2_with (fail)
    refine CU.mono ?_
    rintro e w1 ⟨rfl, q1, rfl⟩
    go_wp2_with (fail)
    refine (CG _).mono ?_
    rintro e w2 ⟨rfl, q2, rfl⟩
    go_wp2_with (fail)
    go_ret
    exact ⟨by rw [HV.out]; rfl, by first | exact below_drewN HB.out _ | exact below_drewN (below_drewN HB.out _) _⟩
  case pos =>
  subst z0
  by_cases z1 : n = 0
  case neg =>
    have HV : Hid (mayB ⟨ow, gr, ot, us, gs, false, 0⟩ = false) := Lib.hid (mayB_no fun h => by have := h.small rfl; have := HN.out; have := HM.out; simp only at *; omega)
    have y1 : ((n : Int) == 0) = false := by rw [beq_eq_false_iff_ne]; omega
    go_enter Try.func32, Try.ntmps32
    go_wp2_with (fail)
    refine CU.mono ?_
    rintro e w1 ⟨rfl, q1, rfl⟩
    go_wp2_with (fail)
    refine (CG _).mono ?_
    rintro e w2 ⟨rfl, q2, rfl⟩
    go_wp2_with (fail)
    go_ret
    exact ⟨by rw [HV.out]; rfl, by first | exact below_drewN HB.out _ | exact below_drewN (below_drewN HB.out _) _⟩
  case pos =>
  subst z1
  by_cases z2 : m = 0
  case neg =>
    have HV : Hid (mayB ⟨ow, gr, ot, us, gs, false, 0⟩ = false) := Lib.hid (mayB_no fun h => by have := h.small rfl; have := HN.out; have := HM.out; simp only at *; omega)
    have y2 : ((m : Int) == 0) = false := by rw [beq_eq_false_iff_ne]; omega
    go_enter Try.func32, Try.ntmps32
    go_wp2_with (fail)
    refine CU.mono ?_
    rintro e w1 ⟨rfl, q1, rfl⟩
    go_wp2_with (fail)
    refine (CG _).mono ?_
    rintro e w2 ⟨rfl, q2, rfl⟩
    go_wp2_with (fail)
    go_ret
    exact ⟨by rw [HV.out]; rfl, by first | exact below_drewN HB.out _ | exact below_drewN (below_drewN HB.out _) _⟩
  case pos =>
  subst z2
  have HV : Hid (mayB ⟨ow, gr, ot, us, gs, false, 0⟩ = true) := Lib.hid (mayB_iff.2 ⟨t0, t1, t2, t3, hu, hg, fun _ => ⟨rfl, HN.out, HM.out⟩⟩)
  go_enter Try.func32, Try.ntmps32
  go_wp2_with (fail)
  refine CU.mono ?_
  rintro e w1 ⟨rfl, q1, rfl⟩
  go_wp2_with (fail)
  refine (CG _).mono ?_
  rintro e w2 ⟨rfl, q2, rfl⟩
  go_wp2_with (fail)
  go_ret
  exact ⟨by rw [HV.out]; rfl, by first | exact below_drewN HB.out _ | exact below_drewN (below_drewN HB.out _) _⟩
/-- The greatest of four. -/
def mx4 (a b c d : Int) : Int := max (max (max a b) c) d
@[go_sem high] theorem run_mx4 {P : Program} (w : World) (ts : Array TypeId) (t : TypeId) (k : IntKind) (a b c d : Int) : (Builtin.max_ ts t #[.int k a, .int k b, .int k c, .int k d]).run P w = .ok (.int k (mx4 a b c d)) w := by
  have e : ∀ x y : Int, (if y > x then y else x) = max x y := fun x y => by
    rw [Int.max_def]
    split <;> split <;> omega
  simp [Builtin.max_, Builtin.max2, e, mx4]
set_option maxRecDepth 100000 in
set_option maxHeartbeats 2000000 in
theorem valid_calls (x : Ac) (p : Lie) (w : World) (h : Lies w x p) (hs : Sm x) : Calls Try.prog 48 #[x.v p] w fun e w' => e = .returned (.bool (mayB x)) ∧ Below w.heap.size w w' := by
  obtain ⟨ow, gr, ot, us, gs, hm, ms⟩ := x
  obtain ⟨A, c, B, d⟩ := p
  obtain ⟨hus, hgs⟩ := h
  obtain ⟨s1, s2⟩ := hs
  simp only at hus hgs s1 s2
  unfold Ac.v Ac.c
  simp only
  obtain ⟨n, hn⟩ : ∃ n, us.length = n := ⟨_, rfl⟩
  obtain ⟨m, hm'⟩ : ∃ m, gs.length = m := ⟨_, rfl⟩
  rw [hn, hm']
  have hb0 : Below w.heap.size w (w.alloc (.cells #[.int .u8 (ow : Nat), .int .u8 (gr : Nat), .int .u8 (ot : Nat), .slice A n c, .slice B m d, .bool hm, .int .u8 (ms : Nat)] 28)) := (Below.refl _ _).alloc (Nat.le_refl _) _
  have HU := Lib.hid (hus.below hb0)
  have HG := Lib.hid (hgs.below hb0)
  have HB := Lib.hid hb0
  have s1' : n ≤ 1099511627776 := by omega
  have s2' : m ≤ 1099511627776 := by omega
  have S1 := Lib.hid s1
  have S2 := Lib.hid s2
  have HN := Lib.hid hn
  have HM := Lib.hid hm'
  clear hb0 hus hgs s1 s2 hn hm'
  by_cases t : ow ≤ 7 ∧ gr ≤ 7 ∧ ot ≤ 7 ∧ ms ≤ 7
  case neg =>
    have HV : Hid (mayB ⟨ow, gr, ot, us, gs, hm, ms⟩ = false) := Lib.hid (mayB_no fun h => t ⟨h.ow, h.gr, h.ot, h.ms⟩)
    have t' : (7 : Int) < mx4 ow gr ot ms := by unfold mx4; omega
    go_enter Try.func48, Try.ntmps48
    go_wp2_with (fail)
    go_ret
    exact ⟨by rw [HV.out]; rfl, HB.out⟩
  case pos =>
  obtain ⟨t0, t1, t2, t3⟩ := t
  have t' : ¬ (7 : Int) < mx4 ow gr ot ms := by unfold mx4; omega
  cases hm
  case true =>
    have CU := fits_calls A us c _ HU.out
    rw [HN.out] at CU
    have CG := fun V (hV : Below _ _ V) => fits_calls B gs d V (HG.out.below hV)
    rw [HM.out] at CG
    cases hu : namedB us
    case false =>
      have HV : Hid (mayB ⟨ow, gr, ot, us, gs, true, ms⟩ = false) := Lib.hid (mayB_no fun h => by have := h.us; simp [hu] at this)
      rw [hu] at CU
      clear CG
      go_enter Try.func48, Try.ntmps48
      go_wp2_with (fail)
      refine CU.mono ?_
      rintro e w1 ⟨rfl, hb1⟩
      go_wp2_with (fail)
      go_ret
      exact ⟨by rw [HV.out]; rfl, HB.out.trans (hb1.mono HB.out.size)⟩
    case true =>
    rw [hu] at CU
    have HV : Hid (mayB ⟨ow, gr, ot, us, gs, true, ms⟩ = namedB gs) := Lib.hid (by
      cases hg : namedB gs
      · exact mayB_no fun h => by have := h.gs; simp [hg] at this
      · exact mayB_iff.2 ⟨t0, t1, t2, t3, hu, hg, fun h => by cases h⟩)
    have z := Ab.new w ⟨ow, gr, ot, us, gs, true, ms⟩ ⟨A, c, B, d⟩
    unfold Ab Ac.c at z
    simp only [HN.out, HM.out] at z
    have HZ := Lib.hid z
    clear z
    go_enter Try.func48, Try.ntmps48
    go_wp2_with (fail)
    refine CU.mono ?_
    rintro e w1 ⟨rfl, hb1⟩
    have z := (hb1.block _ (by simp)).trans HZ.out
    have z4 := cell_of_row w1 w.heap.size 4 _ _ (0, 0) z
    have HB1 := Lib.hid hb1
    clear z hb1
    go_wp2_with (fail)
    refine (CG _ HB1.out).mono ?_
    rintro e w2 ⟨rfl, hb2⟩
    go_wp2_with (fail)
    go_ret
    exact ⟨by rw [HV.out]; rfl, (HB.out.trans (HB1.out.mono HB.out.size)).trans (hb2.mono (by have := HB.out.size; have := HB1.out.size; omega))⟩
  case false =>
  by_cases z0 : ms = 0
  case neg =>
    have HV : Hid (mayB ⟨ow, gr, ot, us, gs, false, ms⟩ = false) := Lib.hid (mayB_no fun h => by have := h.small rfl; have := HN.out; have := HM.out; simp only at *; omega)
    have y0 : ((ms : Int) == 0) = false := by rw [beq_eq_false_iff_ne]; omega
    go_enter Try.func48, Try.ntmps48
    go_wp2_with (fail)
    go_ret
    exact ⟨by rw [HV.out]; rfl, HB.out⟩
  case pos =>
  subst z0
  by_cases z1 : n = 0
  case neg =>
    have HV : Hid (mayB ⟨ow, gr, ot, us, gs, false, 0⟩ = false) := Lib.hid (mayB_no fun h => by have := h.small rfl; have := HN.out; have := HM.out; simp only at *; omega)
    have y1 : ((n : Int) == 0) = false := by rw [beq_eq_false_iff_ne]; omega
    go_enter Try.func48, Try.ntmps48
    go_wp2_with (fail)
    go_ret
    exact ⟨by rw [HV.out]; rfl, HB.out⟩
  case pos =>
  subst z1
  by_cases z2 : m = 0
  case neg =>
    have HV : Hid (mayB ⟨ow, gr, ot, us, gs, false, 0⟩ = false) := Lib.hid (mayB_no fun h => by have := h.small rfl; have := HN.out; have := HM.out; simp only at *; omega)
    have y2 : ((m : Int) == 0) = false := by rw [beq_eq_false_iff_ne]; omega
    go_enter Try.func48, Try.ntmps48
    go_wp2_with (fail)
    go_ret
    exact ⟨by rw [HV.out]; rfl, HB.out⟩
  case pos =>
  subst z2
  have HV : Hid (mayB ⟨ow, gr, ot, us, gs, false, 0⟩ = true) := Lib.hid (mayB_iff.2 ⟨t0, t1, t2, t3, by rw [List.eq_nil_of_length_eq_zero HN.out]; exact namedB_nil, by rw [List.eq_nil_of_length_eq_zero HM.out]; exact namedB_nil, fun _ => ⟨rfl, HN.out, HM.out⟩⟩)
  go_enter Try.func48, Try.ntmps48
  go_wp2_with (fail)
  go_ret
  exact ⟨by rw [HV.out]; rfl, HB.out⟩
theorem check_calls (x : Ac) (p : Lie) (w : World) (h : Lies w x p) (hs : Sm x) : Calls Try.prog 43 #[x.v p] w fun e w' => e = .returned (.int .i64 (if mayB x then 0 else 622)) ∧ Below w.heap.size w w' := by
  have hb0 : Below w.heap.size w (w.alloc (.cells (x.c p) 28)) := (Below.refl _ _).alloc (Nat.le_refl _) _
  have CV := valid_calls x p _ (h.below hb0) hs
  have HB := Lib.hid hb0
  clear hb0
  unfold Ac.v Ac.c at *
  cases hm : mayB x
  all_goals
    rw [hm] at CV
    go_enter Try.func43, Try.ntmps43
    go_wp2_with (fail)
    refine CV.mono ?_
    rintro e w1 ⟨rfl, hb1⟩
    go_wp2_with (fail)
    go_ret
    exact ⟨rfl, HB.out.trans (hb1.mono HB.out.size)⟩
end Go.Proofs.Ytgdiiicaljidpaa
/- The nine bits of a list. -/
set_option linter.unusedSimpArgs false
set_option linter.unusedVariables false
namespace Go.Proofs.Ytgdiiicaljidpaa
open Go.RowKit Go.Sort Go.Lib
/-- The group class; the bits; a list's bits turned; the list of bits. -/
def cls (x : Ac) : Nat := if x.hm then x.ms else x.gr
def bitsN (x : Ac) : Nat := x.ow % 8 * 64 + cls x % 8 * 8 + x.ot % 8
def chA (x : Ac) (b : Nat) : Ac := ⟨b / 64 % 8, (if x.hm then x.gr else b / 8 % 8), b % 8, x.us, x.gs, x.hm, (if x.hm then b / 8 % 8 else x.ms)⟩
def ofA (b : Nat) : Ac := ⟨b / 64 % 8, b / 8 % 8, b % 8, [], [], false, 0⟩
theorem cls_calls (x : Ac) (p : Lie) (w : World) : Calls Try.prog 31 #[x.v p] w fun e w' => e = .returned (.int .u8 (cls x : Nat)) ∧ Below w.heap.size w w' := by
  obtain ⟨ow, gr, ot, us, gs, hm, ms⟩ := x
  cases hm
  all_goals
    go_enter Try.func31, Try.ntmps31
    go_wp2_with (fail)
    go_ret
    exact ⟨rfl, (Below.refl _ _).alloc (Nat.le_refl _) _⟩
/-- Its numbers are a byte's. -/
structure Nb (x : Ac) : Prop where
  ow : x.ow < 256
  gr : x.gr < 256
  ot : x.ot < 256
  ms : x.ms < 256
  pm : ∀ (k : Nat) p, x.gs[k]? = some p → p.pm < 256
theorem Nb.cls {x : Ac} (h : Nb x) : cls x < 256 := by
  have := h.gr
  have := h.ms
  unfold Go.Proofs.Ytgdiiicaljidpaa.cls
  split <;> omega
theorem and7 (m : Nat) (hm : m < 256) : bits .and .u8 (m : Int) 7 = ((m % 8 : Nat) : Int) := by
  have := u8_and_nat m 7 hm (by decide)
  have e := Nat.and_two_pow_sub_one_eq_mod m 3
  simp only [Nat.reducePow, Nat.reduceSub] at e
  rw [e] at this
  exact this
theorem or_and (N m : Nat) (hN : N < 64) (hm : m < 256) : bits .or .u16 (IntKind.u16.wrap ((N : Int) * 8)) (IntKind.u16.wrap (bits .and .u8 (m : Int) 7)) = ((N * 8 + m % 8 : Nat) : Int) := by
  rw [and7 m hm]
  have e1 : IntKind.u16.wrap ((N : Int) * 8) = ((N * 8 : Nat) : Int) := by rw [IntKind.wrap_u16]; omega
  have e2 : IntKind.u16.wrap ((m % 8 : Nat) : Int) = ((m % 8 : Nat) : Int) := by rw [IntKind.wrap_u16]; omega
  rw [e1, e2, u16_or_nat _ _ (by omega) (by omega)]
  have e3 := Nat.two_pow_add_eq_or_of_lt (i := 3) (b := m % 8) (by omega) N
  simp only [Nat.reducePow] at e3
  rw [Nat.mul_comm N 8, ← e3]
theorem or_and' (N m : Nat) (hN : N < 64) (hm : m < 256) : bits .or .u16 ((N : Int) * 8) ((m : Int) % 8) = ((N * 8 + m % 8 : Nat) : Int) := by
  have h := or_and N m hN hm
  rw [and7 m hm] at h
  have e1 : IntKind.u16.wrap ((N : Int) * 8) = (N : Int) * 8 := by rw [IntKind.wrap_u16]; omega
  have e2 : IntKind.u16.wrap ((m % 8 : Nat) : Int) = (m : Int) % 8 := by rw [IntKind.wrap_u16]; omega
  rwa [e1, e2] at h
/-- Which cell the group class stands in. -/
def at1 (x : Ac) : Nat := if x.hm then 6 else 1
set_option maxRecDepth 100000 in
theorem classes_calls (b : Nat) (x : Ac) (p : Lie) (w : World) (h : Ab w b x p) : Calls Try.prog 46 #[.pointer (some ⟨b, 0, none⟩)] w fun e w' => e = .returned (.agg #[.pointer (some ⟨b, 0, none⟩), .pointer (some ⟨b, at1 x, none⟩), .pointer (some ⟨b, 2, none⟩)]) ∧ Below w.heap.size w w' := by
  obtain ⟨ow, gr, ot, us, gs, hm, ms⟩ := x
  obtain ⟨y0, y1, y2, y3, y4, y5, y6⟩ := h.cells
  simp only at y0 y1 y2 y3 y4 y5 y6
  have hlt := h.lt
  have hne : ¬ w.heap.size = b := by omega
  have hne2 : ¬ b = w.heap.size := by omega
  cases hm
  all_goals
    go_enter Try.func46, Try.ntmps46
    go_wp2_with (go_region)
    exact bodyPost_ret (v := .agg #[.pointer (some ⟨b, 0, none⟩), .pointer (some ⟨b, at1 _, none⟩), .pointer (some ⟨b, 2, none⟩)]) (by simp [results, Try.results46, go_sem, at1]) rfl ⟨rfl, by first | exact (Below.alloc (Below.refl _ _) (Nat.le_refl _) _).drew | exact below_drewN ((Below.refl _ _).alloc (Nat.le_refl _) _) 1⟩
/-- An element of three pointers. -/
theorem run_idx3 (a b c : Option Addr) (k : Nat) (hk : k < 3) (w : World) : (Instr.index 77 (.agg #[.pointer a, .pointer b, .pointer c]) (.int .i64 (k : Nat))).run Try.prog w = .ok (.pointer (if k = 0 then a else if k = 1 then b else c)) w := by
  have u1 := Try.underlying77
  have u2 := Try.underlying76
  have z2 := Try.sizeOf76
  have a2 := Try.isAgg76
  obtain rfl | rfl | rfl : k = 0 ∨ k = 1 ∨ k = 2 := by omega
  all_goals simp [Instr.index, go_sem, run_underlying u1, part]
/-- The cell that the k-th class stands in; its number; the bits of the first k. -/
def atK (x : Ac) (k : Nat) : Nat := if k = 0 then 0 else if k = 1 then at1 x else 2
def numK (x : Ac) (k : Nat) : Nat := if k = 0 then x.ow else if k = 1 then cls x else x.ot
def bitsK (x : Ac) : Nat → Nat
  | 0 => 0
  | k + 1 => bitsK x k * 8 + numK x k % 8
theorem run_idxK (b : Nat) (x : Ac) (k : Nat) (hk : k < 3) (w : World) : (Instr.index 77 (.agg #[.pointer (some ⟨b, 0, none⟩), .pointer (some ⟨b, at1 x, none⟩), .pointer (some ⟨b, 2, none⟩)]) (.int .i64 (k : Nat))).run Try.prog w = .ok (.pointer (some ⟨b, atK x k, none⟩)) w := by
  rw [run_idx3 _ _ _ k hk w]
  unfold atK
  obtain rfl | rfl | rfl : k = 0 ∨ k = 1 ∨ k = 2 := by omega
  all_goals simp
theorem bitsK_lt (x : Ac) (k : Nat) : bitsK x k < 8 ^ k := by
  induction k with
  | zero => simp [bitsK]
  | succ k ih => rw [bitsK, Nat.pow_succ]; omega
theorem bitsK_three (x : Ac) : bitsK x 3 = bitsN x := by
  simp only [bitsK, numK, bitsN]
  simp
  omega
theorem Ab.classK {w : World} {b : Nat} {x : Ac} {p : Lie} (h : Ab w b x p) (k : Nat) (hk : k < 3) : w.cell? ⟨b, atK x k, none⟩ = some (.int .u8 (numK x k : Nat)) := by
  obtain ⟨y0, y1, y2, y3, y4, y5, y6⟩ := h.cells
  obtain ⟨ow, gr, ot, us, gs, hm, ms⟩ := x
  obtain rfl | rfl | rfl : k = 0 ∨ k = 1 ∨ k = 2 := by omega
  · exact y0
  · cases hm
    · exact y1
    · exact y6
  · exact y2
theorem numK_lt {x : Ac} (h : Nb x) (k : Nat) : numK x k < 256 := by
  have h1 := h.ow
  have h2 := h.cls
  have h3 := h.ot
  unfold numK
  split
  · exact h1
  · split
    · exact h2
    · exact h3
set_option maxRecDepth 100000 in
theorem rbits_calls (x : Ac) (p : Lie) (w : World) (hx : Nb x) : Calls Try.prog 14 #[x.v p] w fun e w' => e = .returned (.int .u16 (bitsN x : Nat)) ∧ Below w.heap.size w w' := by
  obtain ⟨U, hU⟩ : ∃ U, U = w.alloc (.cells (x.c p) 28) := ⟨_, rfl⟩
  have z := Ab.new w x p
  have hb : Below w.heap.size w (w.alloc (.cells (x.c p) 28)) := (Below.refl _ _).alloc (Nat.le_refl _) _
  rw [← hU] at z hb
  obtain ⟨y0, y1, y2, y3, y4, y5, y6⟩ := z.cells
  have cC : ∀ dq os, Calls Try.prog 31 #[x.v p] (grow (redrawn U dq) os) fun e w'' => e = .returned (.int .u8 (cls x : Nat)) ∧ ∃ p : Regrown, w'' = grow (redrawn U p.d) p.os := fun dq os => Calls.regrown_of (cls_calls x p _)
  have k0 := cell_regrown y0
  have k1 := cell_regrown y1
  have k2 := cell_regrown y2
  have k3 := cell_regrown y3
  have k4 := cell_regrown y4
  have k5 := cell_regrown y5
  have k6 := cell_regrown y6
  have HU := Lib.hid hU
  have HB := Lib.hid hb
  clear hU z hb y0 y1 y2 y3 y4 y5 y6
  go_enter Try.func14, Try.ntmps14
  go_upto_region 1 with (fail)
  rw [← HU.out]
  refine wp_region_quiet_below (by kernel_rfl) (by kernel_rfl) ?_
  repeat (first | go_big_quiet_step (exact cC _ _) | quiet_step (exact cC _ _))
  have HN : Hid (((x.ow : Int) % 8 * 64 + (cls x : Int) % 8 * 8 + (x.ot : Int) % 8) = ((bitsN x : Nat) : Int)) := Lib.hid (by unfold bitsN; omega)
  refine wpQuiet_nil ?_
  intro _ hw'
  obtain ⟨⟨dq, osq⟩, hw''⟩ := hw'
  subst hw''
  go_wp2_with (fail)
  go_ret
  exact ⟨by rw [← HN.out]; rfl, HB.out.trans ((below_regrown U dq osq).mono HB.out.size)⟩
end Go.Proofs.Ytgdiiicaljidpaa
/- The list of bits; a list's bits turned. -/
set_option linter.unusedSimpArgs false
set_option linter.unusedVariables false
namespace Go.Proofs.Ytgdiiicaljidpaa
open Go.RowKit Go.Sort Go.Lib
set_option maxRecDepth 100000 in
theorem rof_calls (b : Nat) (w : World) (hb : b < 65536) : Calls Try.prog 20 #[.int .u16 (b : Nat)] w fun e w' => e = .returned ((ofA b).v lieZ) ∧ Below w.heap.size w w' := by
  go_enter Try.func20, Try.ntmps20
  go_wp2_with (fail)
  exact bodyPost_ret (v := (ofA b).v lieZ) (by simp [results, Try.results20, go_sem, ofA]) rfl ⟨rfl, (Below.refl _ _).alloc (Nat.le_refl _) _⟩
section
variable {w w' : World} {x : Ac} {q : Lie}
theorem Copied.set (h : Copied w w' x q) {a : Addr} (v : Value) (h1 : ∀ ad, q.A = some ad → ad.block ≠ a.block) (h2 : ∀ ad, q.B = some ad → ad.block ≠ a.block) : Copied w (w'.setCell a v) x q := ⟨h.us.other v h1, h.gs.other v h2, h.ne⟩
theorem Copied.ch (h : Copied w w' x q) (b : Nat) : Copied w w' (chA x b) q := ⟨h.us, h.gs, h.ne⟩
/-- The rows lie from n on. -/
def Far (n : Nat) (q : Lie) : Prop := (∀ ad, q.A = some ad → n ≤ ad.block) ∧ ∀ ad, q.B = some ad → n ≤ ad.block
theorem Copied.far (h : Copied w w' x q) : Far w.heap.size q := ⟨fun ad e => h.us.2 ad e, fun ad e => h.gs.2 ad e⟩
theorem Copied.below_size (h : Copied w w' x q) : (∀ ad, q.A = some ad → ad.block < w'.heap.size) ∧ ∀ ad, q.B = some ad → ad.block < w'.heap.size := ⟨fun ad e => h.us.1.lt ad e, fun ad e => h.gs.1.lt ad e⟩
theorem Far.mono {m n : Nat} (h : Far n q) (hm : m ≤ n) : Far m q := ⟨fun ad e => Nat.le_trans hm (h.1 ad e), fun ad e => Nat.le_trans hm (h.2 ad e)⟩
theorem setAll_size (g : Nat) : (setAll w g x q).heap.size = w.heap.size := by simp [setAll, World.setCell]
theorem setCell_size (a : Addr) (v : Value) : (w.setCell a v).heap.size = w.heap.size := by simp [World.setCell]
end
end Go.Proofs.Ytgdiiicaljidpaa
/- A list's bits turned, by the program; the list of bits. -/
set_option linter.unusedSimpArgs false
set_option linter.unusedVariables false
namespace Go.Proofs.Ytgdiiicaljidpaa
open Go.RowKit Go.Sort Go.Lib
theorem Cel.nm0 {w : World} {b o : Nat} {L : List Nm} (h : Cel w (some ⟨b, o, none⟩) (nv L)) {k : Nat} {p : Nm} (hk : L[k]? = some p) : w.cell? ⟨b, o + k * 2, none⟩ = some (.int .u16 (p.id : Nat)) ∧ w.cell? ⟨b, o + k * 2 + 1, none⟩ = some (.int .u8 (p.pm : Nat)) := by
  obtain ⟨b', o', e, _, hc⟩ := h.nm (by have := (List.getElem?_eq_some_iff.1 hk).1; omega)
  injection e with e
  injection e with e1 e2
  subst e1 e2
  exact hc k p hk
/-- The number of one class turned. -/
def setK (x : Ac) (k v : Nat) : Ac :=
  if k = 0 then ⟨v, x.gr, x.ot, x.us, x.gs, x.hm, x.ms⟩
  else if k = 1 then ⟨x.ow, (if x.hm then x.gr else v), x.ot, x.us, x.gs, x.hm, (if x.hm then v else x.ms)⟩
  else ⟨x.ow, x.gr, v, x.us, x.gs, x.hm, x.ms⟩
/-- The first k classes turned. -/
def chK (x : Ac) (b : Nat) : Nat → Ac
  | 0 => x
  | k + 1 => setK (chK x b k) k (b * 8 ^ k % 65536 / 64 % 256 % 8)
theorem setK_rows (x : Ac) (k v : Nat) : (setK x k v).us = x.us ∧ (setK x k v).gs = x.gs ∧ (setK x k v).hm = x.hm := by
  unfold setK
  split
  · exact ⟨rfl, rfl, rfl⟩
  · split <;> exact ⟨rfl, rfl, rfl⟩
theorem chK_rows (x : Ac) (b k : Nat) : (chK x b k).us = x.us ∧ (chK x b k).gs = x.gs ∧ (chK x b k).hm = x.hm := by
  induction k with
  | zero => exact ⟨rfl, rfl, rfl⟩
  | succ k ih =>
    obtain ⟨h1, h2, h3⟩ := setK_rows (chK x b k) k (b * 8 ^ k % 65536 / 64 % 256 % 8)
    exact ⟨h1.trans ih.1, h2.trans ih.2.1, h3.trans ih.2.2⟩
theorem chK_three (x : Ac) (b : Nat) (hb : b < 65536) : chK x b 3 = chA x b := by
  obtain ⟨ow, gr, ot, us, gs, hm, ms⟩ := x
  have e0 : b * 8 ^ 0 % 65536 / 64 % 256 % 8 = b / 64 % 8 := by omega
  have e1 : b * 8 ^ 1 % 65536 / 64 % 256 % 8 = b / 8 % 8 := by omega
  have e2 : b * 8 ^ 2 % 65536 / 64 % 256 % 8 = b % 8 := by omega
  simp only [chK, e0, e1, e2, setK, chA]
  cases hm <;> simp
theorem atK_eq {x y : Ac} (h : y.hm = x.hm) (k : Nat) : atK y k = atK x k := by
  unfold atK at1
  rw [h]
section
variable {w w' : World} {b : Nat} {x : Ac} {p q : Lie}
theorem Ab.setK (h : Ab w b x p) (k v : Nat) (hk : k < 3) : Ab (w.setCell ⟨b, atK x k, none⟩ (.int .u8 (v : Nat))) b (setK x k v) p := by
  have h7 := set_cell h (atK x k) (.int .u8 (v : Nat))
  obtain ⟨ow, gr, ot, us, gs, hm, ms⟩ := x
  unfold Ab
  obtain rfl | rfl | rfl : k = 0 ∨ k = 1 ∨ k = 2 := by omega
  · simpa [atK, Go.Proofs.Ytgdiiicaljidpaa.setK] using h7
  · cases hm <;> simpa [atK, at1, Go.Proofs.Ytgdiiicaljidpaa.setK] using h7
  · simpa [atK, Go.Proofs.Ytgdiiicaljidpaa.setK] using h7
theorem Ab.frozenK (h : Ab w b x p) (k : Nat) : w.frozen? ⟨b, atK x k, none⟩ = false := h.frozen _
/-- What holds round by round: the list in its block, k classes turned; the result's block; the rows. -/
structure Tr (w wr : World) (x : Ac) (q : Lie) (b k : Nat) : Prop where
  blk : Ab wr w.heap.size (chK x b k) q
  res : Ab wr (w.heap.size + 1) acZ lieZ
  rows : Copied w wr x q
  far : Far (w.heap.size + 2) q
  low : Below w.heap.size w wr
theorem Tr.on {w wr w' : World} {x : Ac} {q : Lie} {b k : Nat} (h : Tr w wr x q b k) (hb : Below wr.heap.size wr w') : Tr w w' x q b k :=
  ⟨h.blk.on hb, h.res.on hb, h.rows.on hb, h.far, h.low.trans (hb.mono h.low.size)⟩
theorem Tr.step {w wr : World} {x : Ac} {q : Lie} {b k : Nat} (h : Tr w wr x q b k) (hk : k < 3) : Tr w (wr.setCell ⟨w.heap.size, atK x k, none⟩ (.int .u8 ((b * 8 ^ k % 65536 / 64 % 256 % 8 : Nat) : Int))) x q b (k + 1) := by
  have e := atK_eq (chK_rows x b k).2.2 k
  refine ⟨?_, h.res.other _ (by show w.heap.size + 1 ≠ w.heap.size; omega), h.rows.set _ (fun ad hA => ?_) (fun ad hB => ?_), h.far, h.low.setCell (Nat.le_refl _) _⟩
  · have h1 := h.blk.setK k (b * 8 ^ k % 65536 / 64 % 256 % 8) hk
    rw [e] at h1
    exact h1
  · have := h.far.1 ad hA
    show ad.block ≠ w.heap.size
    omega
  · have := h.far.2 ad hB
    show ad.block ≠ w.heap.size
    omega
end
theorem shr_and (B : Nat) (hB : B < 65536) : bits .and .u8 (((B : Int) / 64) % 256) 7 = ((B / 64 % 256 % 8 : Nat) : Int) := by
  have := and7 (B / 64 % 256) (by omega)
  rw [show ((B / 64 % 256 : Nat) : Int) = (B : Int) / 64 % 256 by omega] at this
  exact this
set_option maxRecDepth 100000 in
set_option maxHeartbeats 2000000 in
theorem chmod_calls (x : Ac) (p : Lie) (b : Nat) (w : World) (h : Lies w x p) (hs : Sm x) (hb : b < 65536) : Calls Try.prog 38 #[x.v p, .int .u16 (b : Nat)] w fun e w' => ∃ q, e = .returned ((chA x b).v q) ∧ Copied w w' (chA x b) q ∧ Below w.heap.size w w' := by
  obtain ⟨U, hU⟩ : ∃ U, U = (w.alloc (.cells (x.c p) 28)).alloc (.cells zC 28) := ⟨_, rfl⟩
  obtain ⟨z1, z2⟩ := Ab.two w x p
  replace z1 : Ab U w.heap.size x p := by rw [hU]; exact z1
  replace z2 : Ab U (w.heap.size + 1) acZ lieZ := by rw [hU]; exact z2
  have hbU : Below w.heap.size w U := by rw [hU]; exact ((Below.refl _ _).alloc (Nat.le_refl _) _).alloc (by simp) _
  have hsz : U.heap.size = w.heap.size + 2 := by rw [hU]; simp
  have hcp := copy_calls x p U (h.below hbU) hs
  clear h hs
  obtain ⟨y0, y1, y2, y3, y4, y5, y6⟩ := z1.cells
  have HCP := Lib.hid hcp
  have HZ := Lib.hid hsz
  have HB := Lib.hid hbU
  have HU := Lib.hid hU
  have Z2 := Lib.hid z2
  have Z1 := Lib.hid z1
  clear hcp hsz hbU hU z1 z2
  go_enter Try.func38, Try.ntmps38
  go_upto_region 1 with (fail)
  rw [← HU.out]
  clear HU
  go_wp2_with (fail)
  refine HCP.out.mono ?_
  rintro e w1 ⟨⟨A1, c1, B1, d1⟩, rfl, hC, hb1⟩
  clear y0 y1 y2 y3 y4 y5 y6 HCP
  have HC := Lib.hid hC
  have HB1 := Lib.hid hb1
  have z1 := Z1.out.on hb1
  obtain ⟨y0, y1, y2, y3, y4, y5, y6⟩ := z1.cells
  have f0 := z1.frozen 0
  have f1 := z1.frozen 1
  have f2 := z1.frozen 2
  have f3 := z1.frozen 3
  have f4 := z1.frozen 4
  have f5 := z1.frozen 5
  have f6 := z1.frozen 6
  have ZZ1 := Lib.hid z1
  clear z1 hC hb1 Z1
  go_upto_region 2 with (fail)
  clear y0 y1 y2 y3 y4 y5 y6 f0 f1 f2 f3 f4 f5 f6
  generalize hV : (((((((w1.setCell ⟨w.heap.size, 0, none⟩ (.int .u8 (x.ow : Nat))).setCell ⟨w.heap.size, 1, none⟩ (.int .u8 (x.gr : Nat))).setCell ⟨w.heap.size, 2, none⟩ (.int .u8 (x.ot : Nat))).setCell ⟨w.heap.size, 3, none⟩ (.slice A1 x.us.length c1)).setCell ⟨w.heap.size, 4, none⟩ (.slice B1 x.gs.length d1)).setCell ⟨w.heap.size, 5, none⟩ (.bool x.hm)).setCell ⟨w.heap.size, 6, none⟩ (.int .u8 (x.ms : Nat))) = V
  have hV2 : setAll w1 w.heap.size x ⟨A1, c1, B1, d1⟩ = V := hV
  have hT : Tr w V x ⟨A1, c1, B1, d1⟩ b 0 := by
    rw [← hV2]
    have q0 := HZ.out
    have q1 := HB1.out.size
    have hf : Far (w.heap.size + 2) ⟨A1, c1, B1, d1⟩ := HC.out.far.mono (by omega)
    exact ⟨Ab.all ZZ1.out x ⟨A1, c1, B1, d1⟩, (Z2.out.on HB1.out).others x ⟨A1, c1, B1, d1⟩ (by omega), (HC.out.from (by omega)).all x ⟨A1, c1, B1, d1⟩ (fun ad e => by have := hf.1 ad e; omega) (fun ad e => by have := hf.2 ad e; omega), hf,
      below_all (HB.out.trans (HB1.out.mono HB.out.size)) (Nat.le_refl _) x⟩
  have HT := Lib.hid hT
  clear hV hV2 hT HC HB HB1 HZ Z2 ZZ1
  go_wp2_with (fail)
  refine (classes_calls w.heap.size x ⟨A1, c1, B1, d1⟩ V HT.out.blk).mono ?_
  rintro e w3 ⟨rfl, hb3⟩
  have HT3 := Lib.hid (HT.out.on hb3)
  clear hb3 HT
  go_wp2_with (fail)
  go_loopw [1, 6, 10] (fun v n i wr => ∃ k N : Nat, i = .int .i64 k ∧ k ≤ 3 ∧ v = .int .u16 (N : Nat) ∧ Hid (N = b * 8 ^ k % 65536) ∧ Hid (Tr w wr x ⟨A1, c1, B1, d1⟩ b k)) (fun _ _ i _ => 3 - (intOf i).toNat)
  case atStart => exact ⟨0, b, rfl, by omega, rfl, Lib.hid (by omega), HT3⟩
  case round =>
    obtain ⟨k, N, rfl, hk, rfl, hN, hT⟩ := hrel
    by_cases hk3 : k < 3
    · have hI := fun W => run_idxK w.heap.size x k hk3 W
      have zk := hT.out.blk
      have e := atK_eq (chK_rows x b k).2.2 k
      have hc := zk.classK k hk3
      have hf := zk.frozenK k
      rw [e] at hc hf
      have hN6 : N < 65536 := by have := hN.out; omega
      have hsh := Lib.hid (shr_and N hN6)
      have HS := Lib.hid (hT.out.step hk3)
      obtain ⟨j, hj⟩ : ∃ j, atK x k = j := ⟨_, rfl⟩
      rw [hj] at hc hf hI
      have HJ := Lib.hid hj
      clear hj e zk
      go_wp2_with (fail)
      go_roundw
      case rel =>
        have e1 : ((N : Int) / 64 % 8) = ((b * 8 ^ k % 65536 / 64 % 256 % 8 : Nat) : Int) := by rw [← hN.out]; omega
        have hS := HS.out
        rw [HJ.out, ← e1] at hS
        exact ⟨k + 1, N * 8 % 65536, by go_num, by omega, by first | rfl | (congr 1; rw [IntKind.wrap_u16]) | (congr 1; rw [IntKind.wrap_u16]; omega), Lib.hid (by have := hN.out; rw [Nat.pow_succ, ← Nat.mul_assoc]; omega), Lib.hid hS⟩
      case measure => simp [intOf]; omega
    · obtain rfl : k = 3 := by omega
      obtain ⟨zb, zr, hC, hf, hl⟩ := hT.out
      rw [chK_three x b hb] at zb
      have hnf := Lib.hid hf
      have HC := Lib.hid hC
      have HL := Lib.hid hl
      have ZR := Lib.hid zr
      obtain ⟨y0, y1, y2, y3, y4, y5, y6⟩ := zb.cells
      obtain ⟨v0, v1, v2, v3, v4, v5, v6⟩ := zr.cells
      have f0 := zr.frozen 0
      have f1 := zr.frozen 1
      have f2 := zr.frozen 2
      have f3 := zr.frozen 3
      have f4 := zr.frozen 4
      have f5 := zr.frozen 5
      have f6 := zr.frozen 6
      simp only at v0 v1 v2 v3 v4 v5 v6
      clear zb zr hC hf hl hT
      obtain ⟨X, hX⟩ : ∃ X, chA x b = X := ⟨_, rfl⟩
      have HX := Lib.hid hX
      have hus : X.us.length = x.us.length := by rw [← hX]; rfl
      rw [hX] at y0 y1 y2 y3 y4 y5 y6
      clear hX hus
      go_wp2_with (fail)
      clear y0 y1 y2 y3 y4 y5 y6 v0 v1 v2 v3 v4 v5 v6 f0 f1 f2 f3 f4 f5 f6
      generalize hV : (((((((wr.setCell ⟨w.heap.size + 1, 0, none⟩ (.int .u8 (X.ow : Nat))).setCell ⟨w.heap.size + 1, 1, none⟩ (.int .u8 (X.gr : Nat))).setCell ⟨w.heap.size + 1, 2, none⟩ (.int .u8 (X.ot : Nat))).setCell ⟨w.heap.size + 1, 3, none⟩ (.slice A1 X.us.length c1)).setCell ⟨w.heap.size + 1, 4, none⟩ (.slice B1 X.gs.length d1)).setCell ⟨w.heap.size + 1, 5, none⟩ (.bool X.hm)).setCell ⟨w.heap.size + 1, 6, none⟩ (.int .u8 (X.ms : Nat))) = V
      have hV2 : setAll wr (w.heap.size + 1) X ⟨A1, c1, B1, d1⟩ = V := hV
      have z9 := Ab.all ZR.out X ⟨A1, c1, B1, d1⟩
      have b9 := below_all (p := ⟨A1, c1, B1, d1⟩) HL.out (Nat.le_succ w.heap.size) X
      have c9 := (HC.out.ch b).all (b := w.heap.size + 1) X ⟨A1, c1, B1, d1⟩ (fun ad e => by have := hnf.out.1 ad e; omega) (fun ad e => by have := hnf.out.2 ad e; omega)
      rw [hV2] at z9 c9
      replace b9 : Below w.heap.size w V := hV2 ▸ b9
      clear hV hV2
      obtain ⟨y0, y1, y2, y3, y4, y5, y6⟩ := z9.cells
      simp only at y0 y1 y2 y3 y4 y5 y6
      exact bodyPost_ret (v := Ac.v X ⟨A1, c1, B1, d1⟩) (by simp [results, Try.results38, go_sem, y0, y1, y2, y3, y4, y5, y6]) rfl ⟨⟨A1, c1, B1, d1⟩, by rw [HX.out], c9, b9⟩
set_option maxRecDepth 100000 in
theorem of_calls (b : Nat) (w : World) (hb : b < 65536) : Calls Try.prog 24 #[.int .u16 (b : Nat)] w fun e w' => ∃ q, e = .returned ((ofA b).v q) ∧ Copied w w' (ofA b) q ∧ Below w.heap.size w w' := by
  have hR : Calls Try.prog 38 #[.agg zC, .int .u16 (b : Nat)] (w.alloc (.cells zC 28)) fun e w' => ∃ q, e = .returned ((ofA b).v q) ∧ Copied (w.alloc (.cells zC 28)) w' (ofA b) q ∧ Below (w.alloc (.cells zC 28)).heap.size (w.alloc (.cells zC 28)) w' :=
    chmod_calls acZ lieZ b _ ⟨Cel.nil _ _, Cel.nil _ _⟩ ⟨by decide, by decide⟩ hb
  have z0 : Ab (w.alloc (.cells zC 28)) w.heap.size acZ lieZ := Ab.new w acZ lieZ
  have hb0 : Below w.heap.size w (w.alloc (.cells zC 28)) := (Below.refl _ _).alloc (Nat.le_refl _) _
  have hsz : (w.alloc (.cells zC 28)).heap.size = w.heap.size + 1 := by simp
  have HR := Lib.hid hR
  have HZ := Lib.hid z0
  have HB := Lib.hid hb0
  have HS := Lib.hid hsz
  clear hR z0 hb0 hsz
  go_enter Try.func24, Try.ntmps24
  go_wp2_with (fail)
  refine HR.out.mono ?_
  rintro e w1 ⟨⟨A1, c1, B1, d1⟩, rfl, hC, hb1⟩
  have z1 := HZ.out.on hb1
  have HC := Lib.hid hC
  have HB1 := Lib.hid hb1
  have ZR := Lib.hid z1
  obtain ⟨v0, v1, v2, v3, v4, v5, v6⟩ := z1.cells
  have f0 := z1.frozen 0
  have f1 := z1.frozen 1
  have f2 := z1.frozen 2
  have f3 := z1.frozen 3
  have f4 := z1.frozen 4
  have f5 := z1.frozen 5
  have f6 := z1.frozen 6
  simp only at v0 v1 v2 v3 v4 v5 v6
  clear z1 hC hb1
  obtain ⟨X, hX⟩ : ∃ X, ofA b = X := ⟨_, rfl⟩
  have HX := Lib.hid hX
  rw [hX]
  clear hX
  go_wp2_with (fail)
  clear v0 v1 v2 v3 v4 v5 v6 f0 f1 f2 f3 f4 f5 f6
  generalize hV : (((((((w1.setCell ⟨w.heap.size, 0, none⟩ (.int .u8 (X.ow : Nat))).setCell ⟨w.heap.size, 1, none⟩ (.int .u8 (X.gr : Nat))).setCell ⟨w.heap.size, 2, none⟩ (.int .u8 (X.ot : Nat))).setCell ⟨w.heap.size, 3, none⟩ (.slice A1 X.us.length c1)).setCell ⟨w.heap.size, 4, none⟩ (.slice B1 X.gs.length d1)).setCell ⟨w.heap.size, 5, none⟩ (.bool X.hm)).setCell ⟨w.heap.size, 6, none⟩ (.int .u8 (X.ms : Nat))) = V
  have hV2 : setAll w1 w.heap.size X ⟨A1, c1, B1, d1⟩ = V := hV
  have z9 := Ab.all ZR.out X ⟨A1, c1, B1, d1⟩
  have b9 := below_all (p := ⟨A1, c1, B1, d1⟩) (HB.out.trans (HB1.out.mono HB.out.size)) (Nat.le_refl w.heap.size) X
  have hfar := HC.out.far
  have hs1 := HS.out
  have c9 := (HC.out.from HB.out.size).all (b := w.heap.size) X ⟨A1, c1, B1, d1⟩ (fun ad e => by have := hfar.1 ad e; omega) (fun ad e => by have := hfar.2 ad e; omega)
  rw [hV2] at z9 c9
  replace b9 : Below w.heap.size w V := hV2 ▸ b9
  clear hV hV2
  obtain ⟨y0, y1, y2, y3, y4, y5, y6⟩ := z9.cells
  simp only at y0 y1 y2 y3 y4 y5 y6
  exact bodyPost_ret (v := Ac.v X ⟨A1, c1, B1, d1⟩) (by simp [results, Try.results24, go_sem, y0, y1, y2, y3, y4, y5, y6]) rfl ⟨⟨A1, c1, B1, d1⟩, by rw [HX.out], HX.out ▸ c9, b9⟩
end Go.Proofs.Ytgdiiicaljidpaa
