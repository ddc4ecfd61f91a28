/- name.Split: what a jump to its end finds, what its loop keeps. -/
import Derived.Test.YtganpdplikbppaaDoorNm5
import Derived.Test.YtganpdplikbppaaDoorNm6
import Derived.ScopeJumps
import Derived.WalkMore
set_option linter.unusedSimpArgs false
set_option linter.unusedVariables false
namespace Go.Proofs.YtganpdplikbppaaDoor
open Go.RowKit Go.Shelf Go.Lib
attribute [local go_sem] Oper.semAt_some

theorem only_set (A : World) (b k : Nat) (v : Value) : Only (fun i => i = b) A (A.setCell ⟨b, k, none⟩ v) := (Only.refl (fun i => i = b) A).setCell (p := ⟨b, k, none⟩) (.inl rfl) v
/-- A path's value. -/
def pv (r d : Bool) (A : Option Addr) (n c : Nat) : Value := .agg #[.bool r, .bool d, .slice A n c]
theorem fresh_own {w : World} {e : TypeId} {size n c base : Nat} {A : Option Addr} {xs : List Value} (h : OwnR w e size A n c xs) (hb : ∀ ad, A = some ad → base ≤ ad.block) : Fresh base A := fun ad he => by
  obtain ⟨_, _, _, h4⟩ := h
  rcases h4 with ⟨h4, _⟩ | ⟨g, cur, h4, _⟩
  · rw [h4] at he; cases he
  · have := hb ad he
    rw [h4] at he
    cases he
    exact ⟨g, rfl, this⟩
/-- What Split hands back: the program's, and the document's. -/
abbrev Splits (s : ByteArray) (w : World) (e : Ending) (w' : World) : Prop := ∃ xs A c, Below w.heap.size w w' ∧ Cel w' A (sv xs) ∧ xs.length ≤ c ∧ xs.length ≤ 1024 ∧ Fresh w.heap.size A ∧
      (splitE (tl s) = 0 → xs.map tl = ptsL (tl s) ∧ e = .returned (.tuple #[pv (rootB (tl s)) (dirB (tl s)) A xs.length c, .int .i64 0])) ∧
      (splitE (tl s) ≠ 0 → xs = [] ∧ e = .returned (.tuple #[pv false false none 0 0, .int .i64 (splitE (tl s))]))
theorem owns_only {F : Nat → Prop} {A B : World} {base size k : Nat} {e : TypeId} {v : Value} {xs : List Value} (h : A.ownsRow base e size v k xs) (ho : Only F A B) (hF : ∀ j, F j → j < base) : B.ownsRow base e size v k xs := by
  obtain ⟨h1, h2⟩ := h
  rcases h2 with h2 | ⟨g, cap, cur, rfl, hb, hg, hrest⟩
  · exact ⟨h1, .inl h2⟩
  · exact ⟨h1, .inr ⟨g, cap, cur, rfl, hb, (ho.block g (Array.getElem?_eq_some_iff.1 hg).1 (fun hf => by have := hF g hf; omega)).trans hg, hrest⟩⟩
theorem set_same {A : World} {b k : Nat} {v : Value} {xs : Array Value} {t : TypeId} {f : Nat × Nat} (h : A.heap[b]? = some (.cells xs t f)) (hv : xs[k]? = some v) : A.setCell ⟨b, k, none⟩ v = A := by
  have e : (A.setCell ⟨b, k, none⟩ v).heap = A.heap := by
    apply Array.ext
    · simp
    · intro i h1 h2
      simp only [World.setCell, Array.getElem_modify]
      by_cases hi : b = i
      · subst hi
        have hh : A.heap[b] = .cells xs t f := by
          rw [Array.getElem?_eq_getElem h2] at h
          exact Option.some.inj h
        have hs : xs.setIfInBounds k v = xs := by
          apply Array.ext
          · simp
          · intro j j1 j2
            by_cases hj : k = j
            · subst hj
              rw [Array.getElem?_eq_getElem j2] at hv
              rw [Array.getElem_setIfInBounds j2, if_pos rfl]
              exact (Option.some.inj hv).symm
            · rw [Array.getElem_setIfInBounds, if_neg hj]
        simp [hh, hs]
      · rw [if_neg hi]
  show ({ A with heap := (A.setCell ⟨b, k, none⟩ v).heap } : World) = A
  rw [e]
theorem set_at {A : World} {b : Nat} (k : Nat) (v : Value) {xs : Array Value} {t : TypeId} {f : Nat × Nat} (h : A.heap[b]? = some (.cells xs t f)) : (A.setCell ⟨b, k, none⟩ v).heap[b]? = some (.cells (xs.setIfInBounds k v) t f) := by
  obtain ⟨hlt, he⟩ := Array.getElem?_eq_some_iff.1 h
  have hl : b < (A.setCell ⟨b, k, none⟩ v).heap.size := by simpa [World.setCell] using hlt
  rw [Array.getElem?_eq_getElem hl]
  simp only [World.setCell, Array.getElem_modify, if_pos, he]
  rfl
/-- Results in a block, and in a slot. -/
theorem results_row_tmp {P : Program} {fn : Func} {p u : Tmp} {ty : TypeId} (h : fn.results = #[.cell p ty, .tmp u]) (tmps : Array Value) (w : World) (g : Nat) (cs : Array Value) (v : Value)
    (hp : tmps.getD p undef = .pointer (some ⟨g, 0, none⟩)) (hv : tmps.getD u undef = v)
    (hl : (loadVar ty ⟨g, 0, none⟩).run P w = .ok (.agg cs) w) :
    (results fn tmps).run P w = .ok (.tuple #[.agg cs, v]) w := by
  rw [results_cell_tmp h, hp, hv]
  simp [asAddr, Result.andThen, hl]
theorem below_putObj {B l : Nat} {a w : World} (h : Below B a w) (hl : B ≤ l) (o : Obj) : Below B a (w.putObj l o) :=
  ⟨h.os, h.tape, h.output, by have := h.size; simpa using this, fun i hi => (World.putObj_heap_other (by omega)).trans (h.block i hi)⟩
/-- Block h is a path that holds nothing. -/
def Zp (h : Nat) (A : World) : Prop := A.heap[h]? = some (.cells #[.bool false, .bool false, .slice none 0 0] 29 (0, 0))
def Pp (h : Nat) (v : Value) (A : World) : Prop := A.heap[h]? = some (.cells #[.bool false, .bool false, v] 29 (0, 0))
theorem Zp.only {F : Nat → Prop} {h : Nat} {A B : World} (z : Zp h A) (ho : Only F A B) (hF : ¬ F h) : Zp h B := (ho.block h (Array.getElem?_eq_some_iff.1 z).1 hF).trans z
theorem Pp.only {F : Nat → Prop} {h : Nat} {v : Value} {A B : World} (z : Pp h v A) (ho : Only F A B) (hF : ¬ F h) : Pp h v B := (ho.block h (Array.getElem?_eq_some_iff.1 z).1 hF).trans z
/-- A part of more than 16 bytes. -/
def tooLong (xs : List ByteArray) : Bool := longL (xs.map tl)
/-- Between two rounds. -/
structure Mid (w : World) (pre : List ByteArray) (A : World) (v : Value) : Prop where
  path : Pp (w.heap.size + 1) v A
  row : A.ownsRow (w.heap.size + 12) 9 1 v pre.length (sv pre)
  short : tooLong pre = false
  errno : Boxed A (w.heap.size + 1 + 1) 23 (.int .i64 0)
  zero : Zp w.heap.size A
  below : Below w.heap.size w A
theorem Mid.only {w : World} {pre : List ByteArray} {A B : World} {v : Value} {F : Nat → Prop} (h : Mid w pre A v) (ho : Only F A B) (hF : ∀ k, F k → w.heap.size + 4 ≤ k ∧ k < w.heap.size + 12) : Mid w pre B v :=
  ⟨h.path.only ho (fun hf => by have := hF _ hf; omega), owns_only h.row ho (fun j hf => by have := hF _ hf; omega), h.short, Boxed.only h.errno ho (fun hf => by have := hF _ hf; omega), h.zero.only ho (fun hf => by have := hF _ hf; omega),
    h.below.trans (ho.below h.below.size (fun i hf => by have := hF _ hf; omega))⟩
/-- A round has found a part that is too long. -/
structure Out (w : World) (pre : List ByteArray) (A : World) : Prop where
  long : tooLong pre = true
  errno : Boxed A (w.heap.size + 1 + 1) 23 (.int .i64 636)
  zero : Zp w.heap.size A
  below : Below w.heap.size w A
theorem Out.only {w : World} {pre : List ByteArray} {A B : World} {F : Nat → Prop} (h : Out w pre A) (ho : Only F A B) (hF : ∀ k, F k → w.heap.size + 4 ≤ k ∧ k < w.heap.size + 12) : Out w pre B :=
  ⟨h.long, Boxed.only h.errno ho (fun hf => by have := hF _ hf; omega), h.zero.only ho (fun hf => by have := hF _ hf; omega),
    h.below.trans (ho.below h.below.size (fun i hf => by have := hF _ hf; omega))⟩
theorem long_snoc (xs : List ByteArray) (x : ByteArray) : tooLong (xs ++ [x]) = (tooLong xs || decide (16 < x.size)) := by
  unfold tooLong longL
  rw [List.map_append, List.any_append, List.map_singleton, List.any_cons, List.any_nil, Bool.or_false, size_eq]
theorem long_prefix {xs : List ByteArray} {l : List UInt8} (h : xs.map tl <+: ptsL l) (hl : tooLong xs = true) : longL (ptsL l) = true := by
  obtain ⟨t, ht⟩ := h
  rw [← ht]
  unfold longL
  rw [List.any_append, show (xs.map tl).any _ = true from hl, Bool.true_or]
theorem Mid.found {w : World} {pre : List ByteArray} {A : World} {v : Value} {x : ByteArray} (h : Mid w pre A v) (hx : 16 < x.size) :
    Out w (pre ++ [x]) (A.setCell ⟨w.heap.size + 1 + 1, 0, none⟩ (.int .i64 636)) := by
  have o : Only (fun k => k = w.heap.size + 1 + 1) A (A.setCell ⟨w.heap.size + 1 + 1, 0, none⟩ (.int .i64 636)) := only_set _ _ _ _
  exact ⟨by rw [long_snoc, decide_eq_true hx, Bool.or_true], Boxed.set _ h.errno, h.zero.only o (by omega), h.below.trans (o.below h.below.size (fun i hi => by omega))⟩
theorem Mid.next {w : World} {pre : List ByteArray} {A B : World} {v : Value} {x : ByteArray} {g c : Nat} (h : Mid w pre A v) (hx : ¬ 16 < x.size) (ho : Only (fun k => w.heap.size + 12 ≤ k) A B) (hrow : B.ownsRow (w.heap.size + 12) 9 1 (.slice (some ⟨g, 0, none⟩) (pre.length + 1) c) (pre.length + 1) (sv pre ++ [.string x])) :
    Mid w (pre ++ [x]) (B.setCell ⟨w.heap.size + 1, 2, none⟩ (.slice (some ⟨g, 0, none⟩) (pre.length + 1) c)) (.slice (some ⟨g, 0, none⟩) (pre.length + 1) c) := by
  have o : Only (fun k => k = w.heap.size + 1) B (B.setCell ⟨w.heap.size + 1, 2, none⟩ (.slice (some ⟨g, 0, none⟩) (pre.length + 1) c)) := only_set _ _ _ _
  refine ⟨?_, ?_, by rw [long_snoc, h.short, decide_eq_false hx]; rfl, Boxed.only (Boxed.only h.errno ho (by omega)) o (by omega), (h.zero.only ho (by omega)).only o (by omega), (h.below.trans (ho.below h.below.size (fun i hi => by omega))).trans (o.below (Nat.le_trans h.below.size ho.size) (fun i hi => by omega))⟩
  · exact set_at 2 _ (h.path.only ho (by omega))
  · have := owns_only hrow o (fun j hj => by omega)
    rw [List.length_append, List.length_singleton, sv_append]
    exact this
/-- What is handed back is laid. -/
theorem Mid.laid {w : World} {pre : List ByteArray} {A B : World} {v : Value} (h : Mid w pre A v) (r d : Value)
    (hB : (((((A.setCell ⟨w.heap.size + 1, 0, none⟩ r).setCell ⟨w.heap.size + 1, 1, none⟩ d).setCell ⟨w.heap.size, 0, none⟩ r).setCell ⟨w.heap.size, 1, none⟩ d).setCell ⟨w.heap.size, 2, none⟩ v) = B) :
    B.heap[w.heap.size]? = some (.cells #[r, d, v] 29 (0, 0)) ∧ Only (fun k => k = w.heap.size ∨ k = w.heap.size + 1) A B := by
  subst hB
  have o1 := only_set A (w.heap.size + 1) 0 r
  have o2 := only_set (A.setCell ⟨w.heap.size + 1, 0, none⟩ r) (w.heap.size + 1) 1 d
  have z2 := (h.zero.only o1 (by omega)).only o2 (by omega)
  have s3 := set_at 2 v (set_at 1 d (set_at 0 r z2))
  refine ⟨s3, ?_⟩
  have o3 := only_set ((A.setCell ⟨w.heap.size + 1, 0, none⟩ r).setCell ⟨w.heap.size + 1, 1, none⟩ d) w.heap.size 0 r
  have o4 := only_set (((A.setCell ⟨w.heap.size + 1, 0, none⟩ r).setCell ⟨w.heap.size + 1, 1, none⟩ d).setCell ⟨w.heap.size, 0, none⟩ r) w.heap.size 1 d
  have o5 := only_set ((((A.setCell ⟨w.heap.size + 1, 0, none⟩ r).setCell ⟨w.heap.size + 1, 1, none⟩ d).setCell ⟨w.heap.size, 0, none⟩ r).setCell ⟨w.heap.size, 1, none⟩ d) w.heap.size 2 v
  have q1 := o1.mono (F' := fun k => k = w.heap.size ∨ k = w.heap.size + 1) (fun k hk => .inr hk)
  have q2 := o2.mono (F' := fun k => k = w.heap.size ∨ k = w.heap.size + 1) (fun k hk => .inr hk)
  have q3 := o3.mono (F' := fun k => k = w.heap.size ∨ k = w.heap.size + 1) (fun k hk => .inl hk)
  have q4 := o4.mono (F' := fun k => k = w.heap.size ∨ k = w.heap.size + 1) (fun k hk => .inl hk)
  have q5 := o5.mono (F' := fun k => k = w.heap.size ∨ k = w.heap.size + 1) (fun k hk => .inl hk)
  exact (((q1.trans q2 (fun _ h => .inl h)).trans q3 (fun _ h => .inl h)).trans q4 (fun _ h => .inl h)).trans q5 (fun _ h => .inl h)
theorem Cel.putObj {w : World} {A : Option Addr} {xs : List Value} (h : Cel w A xs) {l : Nat} (o : Obj) (hl : ∀ ad, A = some ad → ad.block ≠ l) : Cel (w.putObj l o) A xs :=
  h.only (Only.putObj (F := fun k => k = l) w o rfl) (fun ad e _ => hl ad e)
/-- What a jump to the end finds. -/
def Jmp (w : World) (s : ByteArray) (e : Int) (a : Act) (A : World) : Prop :=
  ∃ u6 u7 u8 u9 u10 u11 u12 u13 u14 u15 u16 u17 u18 u19 u20 u21 u22 u23 u24 u25 u26 u27 u28 u29 u30 u31 u32 u33 u34 u35 u36 : Value, a.tmps = #[.string s, undef, .pointer (some ⟨w.heap.size, 0, none⟩), .int .i64 0, .pointer (some ⟨w.heap.size + 1, 0, none⟩), .pointer (some ⟨w.heap.size + 1 + 1, 0, none⟩), u6, u7, u8, u9, u10, u11, u12, u13, u14, u15, u16, u17, u18, u19, u20, u21, u22, u23, u24, u25, u26, u27, u28, u29, u30, u31, u32, u33, u34, u35, u36] ∧
    (a.defers = [] ∨ ∃ D, w.heap.size + 4 ≤ D ∧ a.defers = [{ target := .collected D, args := #[] }] ∧ A.heap[D]? = some (.deferred (some []))) ∧
    Boxed A (w.heap.size + 1 + 1) 23 (.int .i64 e) ∧ Zp w.heap.size A ∧ Below w.heap.size w A
end Go.Proofs.YtganpdplikbppaaDoor
