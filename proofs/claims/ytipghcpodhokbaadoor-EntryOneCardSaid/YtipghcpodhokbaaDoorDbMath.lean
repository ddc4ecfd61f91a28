/- Blocks of directories: ten slots and a number, as cells, in memory, as words. -/
import Derived.Test.YtipghcpodhokbaaDoorSlo5
import Derived.Deep.MidRow
import Derived.Laws.ResultCell
set_option linter.unusedSimpArgs false
set_option linter.unusedVariables false
namespace Go.Proofs.YtipghcpodhokbaaDoor
open Go.RowKit WordMath SumMath
/-- Slots as cells, one behind the other. -/
def slcs : List Slt → List Value
  | [] => []
  | x :: L => .int .i64 x.I :: .int .u8 x.K :: .string x.S :: slcs L
theorem slcs_length (L : List Slt) : (slcs L).length = 3 * L.length := by
  induction L with
  | nil => rfl
  | cons x L ih => simp only [slcs, List.length_cons, ih]; omega
theorem slcs_one (L : List Slt) : ∀ v ∈ slcs L, v.oneCell' = true := by
  induction L with
  | nil => intro v h; cases h
  | cons x L ih =>
    intro v h
    simp only [slcs, List.mem_cons] at h
    rcases h with rfl | rfl | rfl | h
    · rfl
    · rfl
    · rfl
    · exact ih v h
theorem slcs_at (L : List Slt) : ∀ k, k < L.length → (slcs L)[k * 3]? = some (.int .i64 (L.getD k zS).I) ∧ (slcs L)[k * 3 + 1]? = some (.int .u8 (L.getD k zS).K) ∧ (slcs L)[k * 3 + 2]? = some (.string (L.getD k zS).S) := by
  induction L with
  | nil => intro k h; simp at h
  | cons x L ih =>
    intro k h
    cases k with
    | zero => exact ⟨rfl, rfl, rfl⟩
    | succ k =>
      have := ih k (by simpa using h)
      rw [show (k + 1) * 3 = k * 3 + 1 + 1 + 1 by omega]
      simpa [slcs] using this
theorem slcs_part (L : List Slt) : ∀ k, k < L.length → ((slcs L).drop (k * 3)).take 3 = [.int .i64 (L.getD k zS).I, .int .u8 (L.getD k zS).K, .string (L.getD k zS).S] := by
  induction L with
  | nil => intro k h; simp at h
  | cons x L ih =>
    intro k h
    cases k with
    | zero => rfl
    | succ k =>
      have := ih k (by simpa using h)
      rw [show (k + 1) * 3 = k * 3 + 1 + 1 + 1 by omega]
      simpa [slcs] using this
theorem slcs_set (L : List Slt) (x : Slt) : ∀ k, k < L.length → (((slcs L).set (k * 3) (.int .i64 x.I)).set (k * 3 + 1) (.int .u8 x.K)).set (k * 3 + 2) (.string x.S) = slcs (L.set k x) := by
  induction L with
  | nil => intro k h; simp at h
  | cons y L ih =>
    intro k h
    cases k with
    | zero => rfl
    | succ k =>
      have := ih k (by simpa using h)
      rw [show (k + 1) * 3 = k * 3 + 1 + 1 + 1 by omega]
      simp only [slcs, List.set_cons_succ]
      rw [this]
/-- A block of a directory. -/
structure Dbl where
  N : Int
  L : List Slt
/-- As cells, as a value. -/
def Dbl.c (b : Dbl) : Array Value := (.int .i64 b.N :: slcs b.L).toArray
abbrev Dbl.v (b : Dbl) : Value := .agg b.c
/-- Slots as a value. -/
abbrev slv (L : List Slt) : Value := .agg (slcs L).toArray
/-- The empty ones. -/
def zL : List Slt := List.replicate 10 zS
def zD : Dbl := ⟨0, zL⟩
theorem Dbl.one (b : Dbl) : b.c.all (·.oneCell') = true := by
  rw [← Array.all_toList]
  unfold Dbl.c
  rw [List.all_eq_true]
  intro v hv
  simp only [List.mem_cons] at hv
  rcases hv with rfl | hv
  · rfl
  · exact slcs_one _ v hv
theorem Dbl.size {b : Dbl} (h : b.L.length = 10) : b.c.size = 31 := by unfold Dbl.c; simp [slcs_length, h]
theorem slcs_size {L : List Slt} (h : L.length = 10) : (slcs L).toArray.size = 30 := by simp [slcs_length, h]
theorem slcs_all (L : List Slt) : (slcs L).toArray.all (·.oneCell') = true := by
  rw [← Array.all_toList, List.all_eq_true]
  exact slcs_one L
/-! ### in memory -/
abbrev Db (w : World) (g : Nat) (b : Dbl) : Prop := Ob w g (.cells b.c 26 (0, 0))
abbrev Ar (w : World) (g : Nat) (L : List Slt) : Prop := Ob w g (.cells (slcs L).toArray 24 (0, 0))
theorem Db.head {w : World} {g : Nat} {b : Dbl} (h : Db w g b) : w.cell? ⟨g, 0, none⟩ = some (.int .i64 b.N) := by
  rw [cell_of_row w g 0 _ _ (0, 0) h]; rfl
theorem Db.range {w : World} {g : Nat} {b : Dbl} (h : Db w g b) : w.rangeAt g 1 (slcs b.L) := fun j v hv => by
  rw [cell_of_row w g (1 + j) _ _ (0, 0) h, Nat.add_comm]
  unfold Dbl.c
  simpa using hv
theorem Db.cells {w : World} {g : Nat} {b : Dbl} (h : Db w g b) (k : Nat) (hk : k < b.L.length) : w.cell? ⟨g, 1 + k * 3, none⟩ = some (.int .i64 (b.L.getD k zS).I) ∧ w.cell? ⟨g, 1 + k * 3 + 1, none⟩ = some (.int .u8 (b.L.getD k zS).K) ∧ w.cell? ⟨g, 1 + k * 3 + 2, none⟩ = some (.string (b.L.getD k zS).S) := by
  obtain ⟨h0, h1, h2⟩ := slcs_at b.L k hk
  exact ⟨h.range _ _ h0, h.range _ _ h1, h.range _ _ h2⟩
theorem Db.frozen {w : World} {g : Nat} {b : Dbl} (h : Db w g b) (k : Nat) : w.frozen? ⟨g, k, none⟩ = false := by
  unfold Db Ob at h; simp [World.frozen?, h]
theorem Ar.frozen {w : World} {g : Nat} {L : List Slt} (h : Ar w g L) (k : Nat) : w.frozen? ⟨g, k, none⟩ = false := by
  unfold Ar Ob at h; simp [World.frozen?, h]
theorem Ar.cells {w : World} {g : Nat} {L : List Slt} (h : Ar w g L) (k : Nat) (hk : k < L.length) : w.cell? ⟨g, k * 3, none⟩ = some (.int .i64 (L.getD k zS).I) ∧ w.cell? ⟨g, k * 3 + 1, none⟩ = some (.int .u8 (L.getD k zS).K) ∧ w.cell? ⟨g, k * 3 + 2, none⟩ = some (.string (L.getD k zS).S) := by
  obtain ⟨h0, h1, h2⟩ := slcs_at L k hk
  refine ⟨?_, ?_, ?_⟩ <;> rw [cell_of_row w g _ _ _ (0, 0) h] <;> simpa
/-- One slot stored over another one. -/
theorem Ar.set {w : World} {g : Nat} {L : List Slt} (h : Ar w g L) (k : Nat) (hk : k < L.length) (x : Slt) :
    Ar (((w.setCell ⟨g, k * 3, none⟩ (.int .i64 x.I)).setCell ⟨g, k * 3 + 1, none⟩ (.int .u8 x.K)).setCell ⟨g, k * 3 + 2, none⟩ (.string x.S)) g (L.set k x) := by
  unfold Ar Ob at h ⊢
  have e := slcs_set L x k hk
  rw [← e]
  simp [World.setCell, Array.getElem?_modify, h]
theorem Db.set {w : World} {g : Nat} {b : Dbl} (h : Db w g b) (k : Nat) (hk : k < b.L.length) (x : Slt) :
    Db (((w.setCell ⟨g, 1 + k * 3, none⟩ (.int .i64 x.I)).setCell ⟨g, 1 + k * 3 + 1, none⟩ (.int .u8 x.K)).setCell ⟨g, 1 + k * 3 + 2, none⟩ (.string x.S)) g ⟨b.N, b.L.set k x⟩ := by
  unfold Db Ob at h ⊢
  have e := slcs_set b.L x k hk
  have e2 : Dbl.c ⟨b.N, b.L.set k x⟩ = ((b.c.setIfInBounds (1 + k * 3) (.int .i64 x.I)).setIfInBounds (1 + k * 3 + 1) (.int .u8 x.K)).setIfInBounds (1 + k * 3 + 2) (.string x.S) := by
    unfold Dbl.c
    rw [← e, Nat.add_comm 1 (k * 3)]
    simp
  rw [e2]
  simp [World.setCell, Array.getElem?_modify, h]
/-- The number stored. -/
theorem Db.setN {w : World} {g : Nat} {b : Dbl} (h : Db w g b) (n : Int) : Db (w.setCell ⟨g, 0, none⟩ (.int .i64 n)) g ⟨n, b.L⟩ := by
  unfold Db Ob at h ⊢
  have e2 : Dbl.c ⟨n, b.L⟩ = b.c.setIfInBounds 0 (.int .i64 n) := by unfold Dbl.c; simp
  rw [e2]
  simp [World.setCell, Array.getElem?_modify, h]
/-- An element of the array. -/
theorem run_index_slot (L : List Slt) (k : Nat) (hk : k < L.length) (h10 : L.length = 10) (w : World) : (Instr.index 24 (.agg (slcs L).toArray) (.int .i64 (k : Nat))).run Tryd.prog w = .ok (.agg #[.int .i64 (L.getD k zS).I, .int .u8 (L.getD k zS).K, .string (L.getD k zS).S]) w := by
  have hp := slcs_part L k hk
  have hk2 : (k : Int) < 10 := by omega
  generalize L.getD k zS = x at *
  have a23 := Tryd.isAgg23
  have z23 := Tryd.sizeOf23
  unfold Instr.index
  simp only [Sem.run_bind, run_underlying Tryd.underlying24]
  simp [go_sem, hk2, part, a23, z23, hp]
/-! ### as words -/
/-- The first word. -/
def headN (n : Int) : Nat := n.toNat + 4920554438285852672
def blW : List Slt → List Nat
  | [] => []
  | x :: L => slW x ++ blW L
theorem blW_length (L : List Slt) : (blW L).length = 3 * L.length := by
  induction L with
  | nil => rfl
  | cons x L ih => simp only [blW, List.length_append, slW_length, ih, List.length_cons]; omega
theorem blW_append (L M : List Slt) : blW (L ++ M) = blW L ++ blW M := by
  induction L with
  | nil => rfl
  | cons x L ih => simp only [List.cons_append, blW, ih, List.append_assoc]
theorem blW_take_succ (L : List Slt) (k : Nat) (hk : k < L.length) : blW (L.take (k + 1)) = blW (L.take k) ++ slW (L.getD k zS) := by
  rw [List.take_succ_eq_append_getElem hk, blW_append]
  simp [blW, List.getD_eq_getElem?_getD, List.getElem?_eq_getElem hk]
/-- The words of a block. -/
def dW (b : Dbl) : List Nat := headN b.N :: 0 :: blW b.L
theorem dW_length {b : Dbl} (h : b.L.length = 10) : (dW b).length = 32 := by unfold dW; simp [blW_length, h]
/-- Which blocks may be. -/
def okD (b : Dbl) (I B : Int) : Bool := decide (0 ≤ b.N ∧ b.N ≤ B) && b.L.all fun x => okS x I
def mayD (b : Dbl) (P I B : Int) : Bool := decide (GOK P I B) && okD b I B
/-- Row k of words. -/
def rowK (l : List Nat) (k : Nat) : List Nat := (l.drop (2 + k * 3)).take 3
theorem blW_row (L : List Slt) : ∀ k, k < L.length → ((blW L).drop (k * 3)).take 3 = slW (L.getD k zS) := by
  induction L with
  | nil => intro k h; simp at h
  | cons x L ih =>
    intro k h
    have hl := slW_length x
    cases k with
    | zero =>
      simp only [blW, Nat.zero_mul, List.drop_zero]
      rw [List.take_append_of_le_length (by omega), List.take_of_length_le (by omega)]
      rfl
    | succ k =>
      have := ih k (by simpa using h)
      simp only [blW]
      rw [List.drop_append, List.drop_eq_nil_of_le (by omega), List.nil_append, hl, show (k + 1) * 3 - 3 = k * 3 by omega, this]
      rfl
theorem rowK_dW (b : Dbl) (k : Nat) (hk : k < b.L.length) : rowK (dW b) k = slW (b.L.getD k zS) := by
  unfold rowK dW
  rw [show 2 + k * 3 = k * 3 + 1 + 1 by omega]
  simp only [List.drop_succ_cons]
  exact blW_row b.L k hk
theorem rowK_length (l : List Nat) (k : Nat) (h : l.length = 32) (hk : k < 10) : (rowK l k).length = 3 := by
  unfold rowK; simp [h]; omega
theorem rowK_get (l : List Nat) (k j : Nat) (hj : j < 3) : (rowK l k).getD j 0 = l.getD (2 + k * 3 + j) 0 := by
  unfold rowK
  rw [List.getD_eq_getElem?_getD, List.getElem?_take_of_lt hj, List.getElem?_drop, ← List.getD_eq_getElem?_getD]
theorem rowK_wd {l : List Nat} (h : Wd l) (k : Nat) : Wd (rowK l k) := fun j => by
  by_cases hj : j < 3
  · rw [rowK_get l k j hj]; exact h _
  · have : (rowK l k).length ≤ j := by unfold rowK; simp; omega
    rw [List.getD_eq_getElem?_getD, List.getElem?_eq_none this]; decide
/-- The block that words have. -/
def rdD (l : List Nat) : Dbl := ⟨((l.getD 0 0 % 256 : Nat) : Int), (List.range 10).map fun k => rdS (rowK l k)⟩
/-- Is word 0 that of a block that may be? -/
def headOk (l : List Nat) (B : Int) : Bool := decide (l.getD 0 0 = headN ((l.getD 0 0 % 256 : Nat) : Int)) && decide (((l.getD 0 0 % 256 : Nat) : Int) ≤ B)
/-- The first slot that is none. -/
def frst (l : List Nat) (I : Int) : Option Nat := (List.range 10).find? fun k => !decOk (rowK l k) I
/-- What is told of words that are no block: where, and what. -/
def badD (l : List Nat) (P I B : Int) : Option (Nat × Int) :=
  if ¬ GOK P I B then some (0, 2) else if l.length ≠ 32 ∨ headOk l B = false then some (0, 7) else if l.getD 1 0 ≠ 0 then some (1, 7) else
  match frst l I with
  | some k => some (2 + k * 3, 7)
  | none => none
def decD (l : List Nat) (P I B : Int) : Dbl := if badD l P I B = none then rdD l else zD
theorem frst_some {l : List Nat} {I : Int} {k : Nat} (hk : k < 10) (h : ∀ j, j < k → decOk (rowK l j) I = true) (hb : decOk (rowK l k) I = false) : frst l I = some k := by
  unfold frst
  rw [List.find?_range_eq_some]
  refine ⟨by rw [hb]; rfl, by simpa using hk, fun j hj => by rw [h j hj]; rfl⟩
theorem frst_none {l : List Nat} {I : Int} (h : ∀ j, j < 10 → decOk (rowK l j) I = true) : frst l I = none := by
  unfold frst
  rw [List.find?_eq_none]
  intro j hj
  rw [h j (by simpa using hj)]
  decide
theorem frst_none_iff {l : List Nat} {I : Int} : frst l I = none ↔ ∀ j, j < 10 → decOk (rowK l j) I = true := by
  refine ⟨fun h j hj => ?_, frst_none⟩
  unfold frst at h
  rw [List.find?_eq_none] at h
  have := h j (by simpa using hj)
  simpa using this
/-! ### the slots of the first k rows -/
def partL (l : List Nat) (k : Nat) : List Slt := (List.range 10).map fun j => if j < k then rdS (rowK l j) else zS
theorem partL_length (l : List Nat) (k : Nat) : (partL l k).length = 10 := by simp [partL]
theorem partL_zero (l : List Nat) : partL l 0 = zL := by
  unfold partL zL
  simp [List.map_const']
theorem partL_get (l : List Nat) (k i : Nat) : (partL l k)[i]? = if i < 10 then some (if i < k then rdS (rowK l i) else zS) else none := by
  unfold partL
  by_cases h : i < 10
  · rw [List.getElem?_map, List.getElem?_range h]; simp [h]
  · rw [List.getElem?_eq_none (by simp; omega), if_neg h]
theorem rdD_get (l : List Nat) (i : Nat) : (rdD l).L[i]? = if i < 10 then some (rdS (rowK l i)) else none := by
  show ((List.range 10).map fun k => rdS (rowK l k))[i]? = _
  by_cases h : i < 10
  · rw [List.getElem?_map, List.getElem?_range h]; simp [h]
  · rw [List.getElem?_eq_none (by simp; omega), if_neg h]
theorem partL_all (l : List Nat) : partL l 10 = (rdD l).L := by
  apply List.ext_getElem?
  intro i
  rw [partL_get, rdD_get]
  by_cases h : i < 10 <;> simp [h]
theorem partL_succ (l : List Nat) (k : Nat) (hk : k < 10) : (partL l k).set k (rdS (rowK l k)) = partL l (k + 1) := by
  apply List.ext_getElem?
  intro i
  rw [List.getElem?_set, partL_get, partL_get, partL_length]
  by_cases h : k = i
  · subst h
    simp [hk]
  · rw [if_neg h]
    by_cases h10 : i < 10
    · by_cases h3 : i < k
      · have : i < k + 1 := by omega
        simp [h10, h3, this]
      · have : ¬ i < k + 1 := by omega
        simp [h10, h3, this]
    · simp [h10]
theorem partL_same (l : List Nat) (k : Nat) (h : rdS (rowK l k) = zS) : partL l (k + 1) = partL l k := by
  apply List.ext_getElem?
  intro i
  rw [partL_get, partL_get]
  by_cases h10 : i < 10
  · by_cases h3 : i < k
    · have : i < k + 1 := by omega
      simp [h10, h3, this]
    · by_cases h4 : i = k
      · subst h4; simp [h10, h]
      · have : ¬ i < k + 1 := by omega
        simp [h10, h3, this]
  · simp [h10]
/-- A row of zeros is the empty slot. -/
theorem row_zero {l : List Nat} {I : Int} (h : l = [0, 0, 0]) : rdS l = zS ∧ decOk l I = true := by
  subst h
  refine ⟨rfl, ?_⟩
  have hz : rdS [0, 0, 0] = zS := rfl
  have hi : isZ zS = true := rfl
  unfold decOk okS
  rw [hz, hi]
  rfl
/-- Results in a block, and in a slot. -/
theorem results_row_tmp {P : Program} {fn : Func} {p u : Tmp} {ty : TypeId} (h : fn.results = #[.cell p ty, .tmp u]) (tmps : Array Value) (w : World) (g : Nat) (cs : Array Value) (v : Value)
    (hp : tmps.getD p undef = .pointer (some ⟨g, 0, none⟩)) (hv : tmps.getD u undef = v)
    (hl : (loadVar ty ⟨g, 0, none⟩).run P w = .ok (.agg cs) w) :
    (results fn tmps).run P w = .ok (.tuple #[.agg cs, v]) w := by
  rw [results_cell_tmp h, hp, hv]
  simp [asAddr, Result.andThen, hl]
end Go.Proofs.YtipghcpodhokbaaDoor
