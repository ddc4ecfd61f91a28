/- Two devices side by side. -/
import Derived.Test.YtghppmgieljgiaaLawFenced
namespace Go.Proofs.Ytghppmgieljgiaa
open Go.RowKit
/-- Two devices of the call's own that share no block. -/
structure Pair (w0 w : World) (g g' : Nat) (F F' : Nat → Prop) (m m' : Mo) : Prop where
  a : Mine w0 w g F m.K m.S m.L
  b : Mine w0 w g' F' m'.K m'.S m'.L
  apart : ∀ i, F i → ¬ F' i
/-- A row of the call's own beside both. -/
structure Own2 (w : World) (F F' : Nat → Prop) (e : TypeId) (size : Nat) (A : Option Addr) (n c : Nat) (xs : List Value) : Prop where
  own : OwnR w e size A n c xs
  out : ∀ ad, A = some ad → ¬ F ad.block ∧ ¬ F' ad.block
section
variable {w0 w w' : World} {g g' : Nat} {F F' : Nat → Prop} {m m' m2 : Mo}
theorem Own2.of_cloned {e : TypeId} {size : Nat} {A : Option Addr} {n c : Nat} {xs : List Value} (h : OwnR w' e size A n c xs) (hn : ∀ ad, A = some ad → w.heap.size ≤ ad.block) (p : Pair w0 w g g' F F' m m') : Own2 w' F F' e size A n c xs :=
  ⟨h, fun ad e => ⟨fun hf => by have := hn ad e; have := p.a.dev.lt _ hf; omega, fun hf => by have := hn ad e; have := p.b.dev.lt _ hf; omega⟩⟩
theorem Own2.below {e : TypeId} {size : Nat} {A : Option Addr} {n c : Nat} {xs : List Value} (h : Own2 w F F' e size A n c xs) (hb : Below w.heap.size w w') : Own2 w' F F' e size A n c xs :=
  ⟨h.own.keep fun ad e => hb.block _ (h.own.lt ad e), h.out⟩
theorem Pair.pass (h : Pair w0 w g g' F F' m m') (hb : Below w.heap.size w w') : Pair w0 w' g g' F F' m m' := ⟨h.a.pass hb, h.b.pass hb, h.apart⟩
theorem Pair.turnA (h : Pair w0 w g g' F F' m m') (t : TurnM w g F m2 w') :
    ∃ F2, Pair w0 w' g g' F2 F' m2 m' ∧ ∀ e size A n c xs, Own2 w F F' e size A n c xs → Own2 w' F2 F' e size A n c xs := by
  obtain ⟨F2, h1, h2, h3⟩ := t
  have hz := h.a.below.size
  have hb := h.a.below.trans (h2.below hz h.a.lo)
  have lo2 : ∀ i, F2 i → w0.heap.size ≤ i := fun i hi => by
    rcases h3 i hi with h4 | h4
    · exact h.a.lo i h4
    · omega
  refine ⟨F2, ⟨⟨h1, lo2, hb⟩, ⟨h.b.dev.other h2 (fun i hi hf => h.apart i hf hi), h.b.lo, hb⟩, fun i hi hf => ?_⟩, fun e size A n c xs hB => ⟨hB.own.keep fun ad e => h2.block _ (hB.own.lt ad e) (hB.out ad e).1, fun ad e => ⟨fun hf => ?_, (hB.out ad e).2⟩⟩⟩
  · rcases h3 i hi with h4 | h4
    · exact h.apart i h4 hf
    · have := h.b.dev.lt _ hf; omega
  · rcases h3 _ hf with h4 | h4
    · exact (hB.out ad e).1 h4
    · have := hB.own.lt ad e; omega
theorem Pair.turnB (h : Pair w0 w g g' F F' m m') (t : TurnM w g' F' m2 w') :
    ∃ F2, Pair w0 w' g g' F F2 m m2 ∧ ∀ e size A n c xs, Own2 w F F' e size A n c xs → Own2 w' F F2 e size A n c xs := by
  obtain ⟨F2, h1, h2, h3⟩ := t
  have hz := h.b.below.size
  have hb := h.b.below.trans (h2.below hz h.b.lo)
  have lo2 : ∀ i, F2 i → w0.heap.size ≤ i := fun i hi => by
    rcases h3 i hi with h4 | h4
    · exact h.b.lo i h4
    · omega
  refine ⟨F2, ⟨⟨h.a.dev.other h2 (fun i hi hf => h.apart i hi hf), h.a.lo, hb⟩, ⟨h1, lo2, hb⟩, fun i hi hf => ?_⟩, fun e size A n c xs hB => ⟨hB.own.keep fun ad e => h2.block _ (hB.own.lt ad e) (hB.out ad e).2, fun ad e => ⟨(hB.out ad e).1, fun hf => ?_⟩⟩⟩
  · rcases h3 i hf with h4 | h4
    · exact h.apart i hi h4
    · have := h.a.dev.lt _ hi; omega
  · rcases h3 _ hf with h4 | h4
    · exact (hB.out ad e).2 h4
    · have := hB.own.lt ad e; omega
end
/-- Both have been told the same k steps. -/
def PairM (w0 w : World) (g g' : Nat) (m m' : Mo) (n N N' : Nat) : Prop := ∃ F F', Pair w0 w g g' F F' m m' ∧ m.ok n N ∧ m'.ok n N'
theorem PairM.below {w0 w : World} {g g' n N N' : Nat} {m m' : Mo} (h : PairM w0 w g g' m m' n N N') : Below w0.heap.size w0 w := by
  obtain ⟨F, F', p, _⟩ := h; exact p.a.below
theorem PairM.doesA {w0 w : World} {g g' n N N' : Nat} {m m' : Mo} (h : PairM w0 w g g' m m' n N N') (hn : n ≤ 4096) (hN : N ≤ 1099511627776) (s : St) (hs : StOK w0 s) (hk : s.keep.length ≤ 1000) :
    Calls Try.prog 32 #[.pointer (some ⟨g, 0, none⟩), sval s] w fun e w' => e = .returned (.tuple #[]) ∧ PairM w0 w' g g' (m.step s) m' n (N + 1) N' := by
  obtain ⟨F, F', p, h1, h2⟩ := h
  refine (does_calls p.a.dev h1 hn hN s (hs.below p.a.below) hk fun ad e h0 hf => ?_).mono ?_
  · have q1 := hs.cel.lt (by rw [bv_length]; exact h0) ad e
    have q2 := p.a.lo _ hf
    omega
  · rintro e w' ⟨rfl, t⟩
    obtain ⟨F2, p2, _⟩ := p.turnA t
    exact ⟨rfl, F2, F', p2, h1.step s, h2⟩
theorem PairM.doesB {w0 w : World} {g g' n N N' : Nat} {m m' : Mo} (h : PairM w0 w g g' m m' n N N') (hn : n ≤ 4096) (hN : N' ≤ 1099511627776) (s : St) (hs : StOK w0 s) (hk : s.keep.length ≤ 1000) :
    Calls Try.prog 32 #[.pointer (some ⟨g', 0, none⟩), sval s] w fun e w' => e = .returned (.tuple #[]) ∧ PairM w0 w' g g' m (m'.step s) n N (N' + 1) := by
  obtain ⟨F, F', p, h1, h2⟩ := h
  refine (does_calls p.b.dev h2 hn hN s (hs.below p.b.below) hk fun ad e h0 hf => ?_).mono ?_
  · have q1 := hs.cel.lt (by rw [bv_length]; exact h0) ad e
    have q2 := p.b.lo _ hf
    omega
  · rintro e w' ⟨rfl, t⟩
    obtain ⟨F2, p2, _⟩ := p.turnB t
    exact ⟨rfl, F, F2, p2, h1, h2.step s⟩
/-- A row of bools that is filled with 'true' from its beginning on. -/
def Filled (w : World) (g n k : Nat) : Prop := ∃ cur : Array Value, w.heap[g]? = some (.cells cur 4 (0, 0)) ∧ cur.size = n ∧ ∀ j, j < n → cur[j]? = some (.bool (decide (j < k)))
theorem Filled.set {w : World} {g n k : Nat} (h : Filled w g n k) (hk : k < n) : Filled (w.setCell ⟨g, k, none⟩ (.bool true)) g n (k + 1) := by
  obtain ⟨cur, h1, h2, h3⟩ := h
  refine ⟨_, heap_setCell_same _ _ _ _ _ _ h1, by simpa using h2, fun j hj => ?_⟩
  by_cases hjk : k = j
  · subst hjk
    rw [Array.getElem?_setIfInBounds_self_of_lt (by omega)]
    simp
  · rw [Array.getElem?_setIfInBounds_ne hjk, h3 j hj]
    congr 2
    exact decide_eq_decide.2 (by omega)
theorem Filled.cel {w : World} {g n : Nat} (h : Filled w g n n) : Cel w (some ⟨g, 0, none⟩) (bv (List.replicate n true)) := fun _ => by
  obtain ⟨cur, h1, h2, h3⟩ := h
  refine ⟨_, rfl, lt_of_cells h1, fun j u hu => ?_⟩
  have hj : j < n := by have := (List.getElem?_eq_some_iff.1 hu).1; simpa [bv] using this
  rw [bv_get _ j (by simpa using hj)] at hu
  injection hu with hu
  rw [add_zero_block, cell_of_row w g j _ _ (0, 0) h1, h3 j hj, ← hu]
  simp [List.getD_eq_getElem?_getD, hj]
theorem Filled.at {w : World} {g n k : Nat} (h : Filled w g n k) : w.frozen? ⟨g, k, none⟩ = false ∧ g < w.heap.size := by
  obtain ⟨cur, h1, _⟩ := h
  exact ⟨frozen_of_row w g k _ _ h1, lt_of_cells h1⟩
theorem Filled.cell {w : World} {g n k : Nat} (h : Filled w g n k) (hk : k < n) : w.cell? ⟨g, k, none⟩ = some (.bool false) := by
  obtain ⟨cur, h1, _, h3⟩ := h
  rw [cell_of_row w g k _ _ (0, 0) h1, h3 k hk]
  simp
theorem Filled.new (w : World) (n : Nat) : Filled (w.alloc (.cells (madeCells #[.bool false] n) 4)) w.heap.size n 0 := by
  refine ⟨_, heap_alloc_new _ _, ?_, fun j hj => ?_⟩
  · simp [size_madeCells]
  · simp [madeCells, hj, Nat.mod_one]
/-- Whether a word is what was kept, or what one of the first k stores says. -/
def fineV (K Z : List Nat) (L : List Pn) (a k : Nat) : Bool := (Z.getD a 0 == K.getD a 0) || (L.take k).any fun p => p.pos == a && p.word == Z.getD a 0
theorem fineV_zero (K Z : List Nat) (L : List Pn) (a : Nat) : fineV K Z L a 0 = (Z.getD a 0 == K.getD a 0) := by simp [fineV]
theorem fineV_succ (K Z : List Nat) (L : List Pn) (a k : Nat) (hk : k < L.length) : fineV K Z L a (k + 1) = (fineV K Z L a k || ((L.getD k p0).pos == a && (L.getD k p0).word == Z.getD a 0)) := by
  unfold fineV
  rw [take_succ_getD L p0 k hk, List.any_append, Bool.or_assoc]
  simp
theorem fineV_end (K : List Nat) (L : List Pn) (st : Nat → Pn → Bool) (a : Nat) (ha : a < K.length) : fineV K (lay K (keeps st L)) L a L.length = true := by
  unfold fineV
  rw [List.take_length]
  rcases crash_word K L st a ha with h | ⟨i, hi, h1, h2⟩
  · rw [h]; simp
  · rw [Bool.or_eq_true, List.any_eq_true]
    refine .inr ⟨L.getD i p0, by rw [getD_of_lt _ _ _ hi]; exact List.getElem_mem _, ?_⟩
    rw [h1, h2]
    simp
end Go.Proofs.Ytghppmgieljgiaa
