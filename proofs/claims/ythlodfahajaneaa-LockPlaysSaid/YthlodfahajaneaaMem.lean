/- Rows of words in memory: a slice that reads as a list. -/
import Derived.Test.YthlodfahajaneaaWordMath
import Derived.WalkKit
import Derived.Deep.Draws
import Derived.Deep.OwnRows
import Derived.Laws.OwnMore
import Derived.Laws.Rows
import Derived.Deep.AppendLies
import Derived.Deep.QuietTactic
set_option linter.unusedSimpArgs false
set_option linter.unusedVariables false
namespace Go.Proofs.Ythlodfahajaneaa
open Go.RowKit

/-- It hands v back, and does nothing but draw. -/
def Q (v : Value) (w : World) (e : Ending) (w' : World) : Prop := e = .returned v ∧ ∃ m, w' = w.drewN m
theorem Q.of {v : Value} {w : World} {n : Nat} : Q v w (.returned v) (w.drewN n) := ⟨rfl, n, rfl⟩
theorem Q.self {v : Value} {w : World} : Q v w (.returned v) w := ⟨rfl, 0, rfl⟩
theorem below_drewN {B : Nat} {a w : World} (h : Below B a w) (n : Nat) : Below B a (w.drewN n) := ⟨h.os, h.tape, h.output, h.size, h.block⟩

theorem add_block (a : Addr) (n : Nat) : (a.add n).block = a.block := by unfold Addr.add; split <;> rfl

/-- A slice at A reads as the words l. -/
def Row (w : World) (A : Option Addr) (l : List Nat) : Prop :=
  0 < l.length → ∃ ad, A = some ad ∧ ad.block < w.heap.size ∧ ∀ k, k < l.length → w.cell? (ad.add k) = some (.int .u64 ((l.getD k 0 : Nat) : Int))
/-- Each is a word. -/
def Wd (l : List Nat) : Prop := ∀ k, l.getD k 0 < 18446744073709551616

theorem Row.below {w w' : World} {A : Option Addr} {l : List Nat} (h : Row w A l) (hb : Below w.heap.size w w') : Row w' A l := fun h0 => by
  obtain ⟨ad, e, hl, hc⟩ := h h0
  exact ⟨ad, e, Nat.lt_of_lt_of_le hl hb.size, fun k hk => (hb.cell (p := ad.add k) (by rw [add_block]; exact hl)).trans (hc k hk)⟩
theorem Row.drewN {w : World} {A : Option Addr} {l : List Nat} (h : Row w A l) (n : Nat) : Row (w.drewN n) A l := h
theorem Row.nil (w : World) (A : Option Addr) : Row w A [] := fun h => absurd h (by simp)
theorem Wd.nil : Wd [] := fun k => by simp
theorem Wd.set {l : List Nat} (h : Wd l) (i v : Nat) (hv : v < 18446744073709551616) : Wd (l.set i v) := fun k => by
  have := h k
  simp only [List.getD_eq_getElem?_getD, List.getElem?_set] at *
  split
  · split <;> simp <;> omega
  · exact this
/-- Words as values. -/
def wv (l : List Nat) : List Value := l.map fun (x : Nat) => Value.int .u64 (x : Int)
theorem wv_length (l : List Nat) : (wv l).length = l.length := by simp [wv]
theorem wv_get (l : List Nat) (k : Nat) (h : k < l.length) : (wv l)[k]? = some (.int .u64 ((l.getD k 0 : Nat) : Int)) := by
  simp [wv, List.getElem?_map, List.getD_eq_getElem?_getD, List.getElem?_eq_getElem h]
theorem wv_set (l : List Nat) (k v : Nat) : wv (l.set k v) = (wv l).set k (.int .u64 (v : Int)) := by simp [wv, List.map_set]
theorem wv_one (l : List Nat) : ∀ u ∈ wv l, u.oneCell' = true := by
  intro u hu
  simp only [wv, List.mem_map] at hu
  obtain ⟨x, _, rfl⟩ := hu
  rfl
/-- A is nil, or the head of a block from B on. -/
def Fresh (B : Nat) (A : Option Addr) : Prop := ∀ ad, A = some ad → ∃ g, ad = ⟨g, 0, none⟩ ∧ B ≤ g
theorem Fresh.mono {B B' : Nat} {A : Option Addr} (h : Fresh B A) (hb : B' ≤ B) : Fresh B' A := fun ad e => by
  obtain ⟨g, e, hg⟩ := h ad e
  exact ⟨g, e, by omega⟩
theorem Fresh.at {B g : Nat} (h : B ≤ g) : Fresh B (some ⟨g, 0, none⟩) := fun ad e => by injection e with e; subst e; exact ⟨g, rfl, h⟩
theorem Fresh.none {B : Nat} : Fresh B none := fun ad h => by cases h

/-- A block of the call's own, known whole (e: uint64's number). -/
def Blk (e : TypeId) (w : World) (g : Nat) (l : List Nat) : Prop := w.heap[g]? = some (.cells (wv l).toArray e (0, 0))
section
variable {e : TypeId} {w w' : World} {g : Nat} {l : List Nat}
theorem Blk.lt (h : Blk e w g l) : g < w.heap.size := by
  rcases Nat.lt_or_ge g w.heap.size with hlt | hge
  · exact hlt
  · unfold Blk at h; rw [Array.getElem?_eq_none hge] at h; cases h
theorem Blk.cell (h : Blk e w g l) (k : Nat) (hk : k < l.length) : w.cell? ⟨g, k, none⟩ = some (.int .u64 ((l.getD k 0 : Nat) : Int)) := by
  rw [cell_of_row w g k _ e (0, 0) h]
  simpa using wv_get l k hk
theorem Blk.frozen (h : Blk e w g l) (k : Nat) : w.frozen? ⟨g, k, none⟩ = false := by
  unfold Blk at h
  simp [World.frozen?, h]
theorem Blk.drewN (h : Blk e w g l) (n : Nat) : Blk e (w.drewN n) g l := h
theorem Blk.set (h : Blk e w g l) (k v : Nat) : Blk e (w.setCell ⟨g, k, none⟩ (.int .u64 (v : Int))) g (l.set k v) := by
  unfold Blk at h ⊢
  rw [wv_set]
  simp [World.setCell, Array.getElem?_modify, h]
theorem Blk.below {B : Nat} (h : Blk e w g l) (hb : Below B w w') (hg : g < B) : Blk e w' g l := (hb.block g hg).trans h
theorem Blk.row (h : Blk e w g l) : Row w (some ⟨g, 0, none⟩) l := fun _ =>
  ⟨_, rfl, h.lt, fun k hk => by
    have := h.cell k hk
    simp only [Addr.add]
    split
    · rename_i h0; subst h0; exact this
    · simpa using this⟩
theorem madeCells_words (n : Nat) : madeCells #[Value.int .u64 0] n = (wv (List.replicate n 0)).toArray := by
  apply Array.ext
  · simp [madeCells, wv]
  · intro i h1 h2
    simp [madeCells, wv, Nat.mod_one]
theorem Blk.new (w : World) (e : TypeId) (n : Nat) : Blk e (w.alloc (.cells (madeCells #[.int .u64 0] n) e)) w.heap.size (List.replicate n 0) := by
  unfold Blk
  rw [madeCells_words]
  exact heap_alloc_new w _
end

/-- A block of the call's own whose first cells are known. -/
def Blkp (e : TypeId) (w : World) (g : Nat) (l : List Nat) : Prop := ∃ cur : Array Value, w.heap[g]? = some (.cells cur e (0, 0)) ∧ cur.toList.take l.length = wv l
section
variable {e : TypeId} {w w' : World} {g : Nat} {l : List Nat}
theorem Blk.part (h : Blk e w g l) : Blkp e w g l := ⟨_, h, by rw [← wv_length l]; simp⟩
theorem Blkp.lt (h : Blkp e w g l) : g < w.heap.size := by
  obtain ⟨cur, h, _⟩ := h
  rcases Nat.lt_or_ge g w.heap.size with hlt | hge
  · exact hlt
  · rw [Array.getElem?_eq_none hge] at h; cases h
theorem Blkp.cell (h : Blkp e w g l) (k : Nat) (hk : k < l.length) : w.cell? ⟨g, k, none⟩ = some (.int .u64 ((l.getD k 0 : Nat) : Int)) := by
  obtain ⟨cur, h, ht⟩ := h
  rw [cell_of_row w g k _ e (0, 0) h, ← wv_get l k hk, ← ht, List.getElem?_take_of_lt hk, Array.getElem?_toList]
theorem Blkp.frozen (h : Blkp e w g l) (k : Nat) : w.frozen? ⟨g, k, none⟩ = false := by
  obtain ⟨cur, h, _⟩ := h
  simp [World.frozen?, h]
theorem Blkp.drewN (h : Blkp e w g l) (n : Nat) : Blkp e (w.drewN n) g l := h
theorem Blkp.set (h : Blkp e w g l) (k v : Nat) : Blkp e (w.setCell ⟨g, k, none⟩ (.int .u64 (v : Int))) g (l.set k v) := by
  obtain ⟨cur, h, ht⟩ := h
  refine ⟨cur.setIfInBounds k (.int .u64 (v : Int)), by simp [World.setCell, Array.getElem?_modify, h], ?_⟩
  rw [wv_set, ← ht, Array.toList_setIfInBounds, List.length_set, List.take_set]
theorem Blkp.below {B : Nat} (h : Blkp e w g l) (hb : Below B w w') (hg : g < B) : Blkp e w' g l := by
  obtain ⟨cur, h, ht⟩ := h
  exact ⟨cur, (hb.block g hg).trans h, ht⟩
theorem add_zero_block (g k : Nat) : (⟨g, 0, none⟩ : Addr).add k = ⟨g, k, none⟩ := by
  simp only [Addr.add]
  split
  · rename_i h0; subst h0; rfl
  · simp
theorem Blkp.row (h : Blkp e w g l) : Row w (some ⟨g, 0, none⟩) l := fun _ =>
  ⟨_, rfl, h.lt, fun k hk => by rw [add_zero_block]; exact h.cell k hk⟩
end
/-- What an owned row reads as. -/
theorem Row.of_own {w : World} {base n : Nat} {e : TypeId} {v : Value} {l : List Nat} (h : w.ownsRow base e 1 v n (wv l)) :
    n = l.length ∧ ∃ A c, v = .slice A l.length c ∧ Row w A l ∧ Fresh base A ∧ (0 < l.length → ∃ g, A = some ⟨g, 0, none⟩ ∧ base ≤ g ∧ Blkp e w g l) := by
  have hl : n = l.length := by have := h.1; rw [wv_length] at this; omega
  subst hl
  refine ⟨rfl, ?_⟩
  rcases h.2 with ⟨rfl, h0⟩ | ⟨g, cap, cur, rfl, hg, hh, hn, hc, hsz, htake⟩
  · exact ⟨none, 0, by rw [h0], fun h1 => absurd h1 (by omega), Fresh.none, fun h1 => absurd h1 (by omega)⟩
  · have hb : Blkp e w g l := ⟨cur, hh, by rw [Nat.mul_one] at htake; exact htake⟩
    exact ⟨some ⟨g, 0, none⟩, cap, rfl, hb.row, Fresh.at hg, fun _ => ⟨g, rfl, hg, hb⟩⟩

section
variable {P : Program}
/-- 'append(nil, l...)': a row of the call's own that reads as l. -/
theorem run_clone (w : World) (t ty e : TypeId) (i : TypeInfo) (ht : P.underlying t = some (.slice e)) (hi : P.info? e = some i) (hz : i.zero = some (.int .u64 0)) (hsize : i.size = 1) (hby : i.bytes = 8)
    (A : Option Addr) (l : List Nat) (c : Nat) (hr : Row w A l) (hlen : l.length ≤ 17592186044416) :
    ∃ A' c' w', (Builtin.append_ #[t, t] ty #[.slice none 0 0, .slice A l.length c]).run P w = .ok (.slice A' l.length c') w' ∧ Row w' A' l ∧ Fresh w.heap.size A' ∧ Below w.heap.size w w' ∧ (0 < l.length → ∃ g, A' = some ⟨g, 0, none⟩ ∧ w.heap.size ≤ g ∧ Blkp e w' g l) := by
  rcases A with _ | ad
  · have h0 : l = [] := by
      cases l with
      | nil => rfl
      | cons x r => obtain ⟨ad, h, _⟩ := hr (by simp); cases h
    subst h0
    refine ⟨none, 0, w, ?_, Row.nil _ _, Fresh.none, Below.refl _ _, fun h => absurd h (by simp)⟩
    simp [Builtin.append_, run_underlying ht, sizeOf, typeInfo, hi, Builtin.lenOf, Builtin.firstCells]
  · have hcells : ∀ j u, (wv l)[j]? = some u → w.cell? (ad.add j) = some u := by
      intro j u hu
      have hj : j < l.length := by
        rcases Nat.lt_or_ge j l.length with h | h
        · exact h
        · rw [List.getElem?_eq_none (by rw [wv_length]; exact h)] at hu; cases hu
      obtain ⟨ad', h, _, hc⟩ := hr (by omega)
      injection h with h
      subst h
      rw [wv_get l j hj] at hu
      rw [hc j hj]; exact hu
    obtain ⟨v', w', hrun, h2, h3, _⟩ := run_append_own (P := P) w w.heap.size t ty e i (.int .u64 0) 1 8 ht hi hz hsize hby rfl (by decide) (.slice none 0 0) 0 [] (World.ownsRow_nil _ _ _ _) ad l.length c (wv l) (by rw [wv_length]; omega) hcells (wv_one l) (by unfold maxLen; omega) (by omega) (Nat.le_refl _)
    rw [List.nil_append] at h2
    obtain ⟨_, A', c', rfl, hr', hf, hblk⟩ := Row.of_own h2
    exact ⟨A', c', w', hrun, hr', hf, (Below.refl _ _).grown h3 (Nat.le_refl _) (by simp [Value.ownBlock]), hblk⟩

theorem wp_clone {w : World} {o : Oper} {a : Act} {K : Act → World → Prop} {Q : Exit → Act → World → Prop} (s x : Operand) (t : TypeId)
    (ho : o.op = .call { callee := .builtin .append, args := #[s, x], argTypes := #[t, t] })
    (e : TypeId) (i : TypeInfo) (ht : P.underlying t = some (.slice e)) (hi : P.info? e = some i) (hz : i.zero = some (.int .u64 0)) (hsize : i.size = 1) (hby : i.bytes = 8)
    (A : Option Addr) (l : List Nat) (c : Nat) (hs : a.eval s = .slice none 0 0) (hx : a.eval x = .slice A l.length c) (hr : Row w A l) (hlen : l.length ≤ 17592186044416)
    (h : ∀ A' c' w', Row w' A' l → Fresh w.heap.size A' → Below w.heap.size w w' → (0 < l.length → ∃ g, A' = some ⟨g, 0, none⟩ ∧ w.heap.size ≤ g ∧ Blkp e w' g l) → K (a.put o.dst (.slice A' l.length c')) w') : o.wp P a w K Q := by
  obtain ⟨A', c', w', hrun, h2, h3, h4, h5⟩ := run_clone (P := P) w t o.type e i ht hi hz hsize hby A l c hr hlen
  unfold Oper.wp execOp
  simp only [ho, resolve, invoke, builtin, Sem.run_bind, Sem.run_pure, Result.andThen_ok, List.map_toArray, List.map_cons, List.map_nil, hs, hx, hrun]
  exact h A' c' w' h2 h3 h4 h5
theorem wpList_clone {w : World} {ops : Array Oper} {rest : List Oper} {o : Oper} {a : Act} {Q : Exit → Act → World → Prop} (hgd : o.guard = none) (s x : Operand) (t : TypeId)
    (ho : o.op = .call { callee := .builtin .append, args := #[s, x], argTypes := #[t, t] })
    (e : TypeId) (i : TypeInfo) (ht : P.underlying t = some (.slice e)) (hi : P.info? e = some i) (hz : i.zero = some (.int .u64 0)) (hsize : i.size = 1) (hby : i.bytes = 8)
    (A : Option Addr) (l : List Nat) (c : Nat) (hs : a.eval s = .slice none 0 0) (hx : a.eval x = .slice A l.length c) (hr : Row w A l) (hlen : l.length ≤ 17592186044416)
    (h : ∀ A' c' w', Row w' A' l → Fresh w.heap.size A' → Below w.heap.size w w' → (0 < l.length → ∃ g, A' = some ⟨g, 0, none⟩ ∧ w.heap.size ≤ g ∧ Blkp e w' g l) → wpList P ops Q rest (a.put o.dst (.slice A' l.length c')) w') : wpList P ops Q (o :: rest) a w :=
  wpList_plain hgd fun _ hK => wp_clone s x t ho e i ht hi hz hsize hby A l c hs hx hr hlen fun A' c' w' h2 h3 h4 h5 => hK _ _ (h A' c' w' h2 h3 h4 h5)
end
end Go.Proofs.Ythlodfahajaneaa
