/- A range over a function whose iterator keeps its state in blocks of its own: what such an iterator gives, and the statement's law. No program stands here. -/
import Derived.RangeFuncNested
import Derived.RangeFuncBound
import Derived.RangeFuncCalls
import Derived.RangeFuncLeaves
import Derived.RangeFuncBox
import Derived.Test.YtganpdplikbppaaDoorCel
set_option linter.unusedSimpArgs false
set_option linter.unusedVariables false
namespace Go.Proofs.YtganpdplikbppaaDoor
open Go.RowKit

/-- J does not look at the blocks of F, nor at new ones. -/
def Blind {α : Type} (F : Nat → Prop) (J : List α → World → Prop) : Prop := ∀ s A B, J s A → Only F A B → J s B
theorem Only.mono {F F' : Nat → Prop} {A B : World} (h : Only F A B) (hF : ∀ k, F k → F' k) : Only F' A B :=
  ⟨h.os, h.tape, h.output, h.size, fun k hk hn => h.block k hk fun hf => hn (hF k hf)⟩
theorem Blind.mono {α : Type} {F F' : Nat → Prop} {J : List α → World → Prop} (h : Blind F J) (hF : ∀ k, F' k → F k) : Blind F' J := fun s A B hs ho => h s A B hs (ho.mono hF)
theorem Only.putObj {F : Nat → Prop} (A : World) {l : Nat} (o : Obj) (hF : F l) : Only F A (A.putObj l o) :=
  ⟨rfl, rfl, rfl, by simp, fun k _ hn => World.putObj_heap_other fun e => hn (e ▸ hF)⟩
/-- The blocks of K lie as they lay. -/
structure Stay (K : Nat → Prop) (A B : World) : Prop where
  size : A.heap.size ≤ B.heap.size
  block : ∀ k, K k → k < A.heap.size → B.heap[k]? = A.heap[k]?
theorem Stay.refl (K : Nat → Prop) (A : World) : Stay K A A := ⟨Nat.le_refl _, fun _ _ _ => rfl⟩
theorem Stay.trans {K : Nat → Prop} {A B C : World} (h : Stay K A B) (k : Stay K B C) : Stay K A C :=
  ⟨Nat.le_trans h.size k.size, fun i hi hl => (k.block i hi (Nat.lt_of_lt_of_le hl h.size)).trans (h.block i hi hl)⟩
theorem Stay.mono {K K' : Nat → Prop} {A B : World} (h : Stay K A B) (hK : ∀ k, K' k → K k) : Stay K' A B := ⟨h.size, fun k hk => h.block k (hK k hk)⟩
theorem Stay.of_only {F K : Nat → Prop} {A B : World} (h : Only F A B) (hK : ∀ k, K k → ¬ F k) : Stay K A B := ⟨h.size, fun k hk hl => h.block k hl (hK k hk)⟩
theorem Stay.same {K : Nat → Prop} {A B : World} (h : Stay K A B) {k : Nat} {o : Obj} (hk : K k) (ho : A.heap[k]? = some o) : B.heap[k]? = some o :=
  (h.block k hk (Array.getElem?_eq_some_iff.1 ho).1).trans ho

/-- What an iterator gives: to a loop whose state is blind to the iterator's own blocks and whose rounds let the blocks of keep lie. -/
def Gives {α : Type} (F : Fence) (n : Nat) (P : Program) (g : Nat) (lb : Array Value) (encs : α → Array Value) (own keep : Nat → Prop) (S Sp : List α → Prop) (N : Nat) (W : World) : Prop :=
  ∀ (l : Nat) (J Jx : List α → World → Prop), Blind own J → Blind own Jx →
    (∀ pre x A, J pre A → (∀ k, own k → k < A.heap.size) → pre.length < N → YieldAt F (n - 1) P l (encs x) A fun e B =>
      (e = .returned (.bool true) ∧ J (pre ++ [x]) B ∧ Stay keep A B) ∨ (e = .returned (.bool false) ∧ Jx (pre ++ [x]) B ∧ Stay keep A B)) →
    J [] W →
    CallsIn F n P g (#[.func (.yield l) #[] #[]] ++ lb) W fun e B => (∃ v, e = .returned v) ∧ ((∃ xs, S xs ∧ J xs B) ∨ (∃ pre, Sp pre ∧ Jx pre B))

/-- How a round's body may be left. -/
def leave {α : Type} (K : Nat → Prop) (R : Nat → Prop) (I : List α → World → Prop) (Ix : Code → List α → World → Prop) (xs : List α) (W : World) : Exit → Act → World → Prop
  | .normal, _, W' => Stay R W W' ∧ Stay K W W' ∧ I xs W'
  | .ret, _, W' => Stay R W W' ∧ Stay K W W' ∧ Ix .ret xs W'
  | .exit id, _, W' => Stay R W W' ∧ Stay K W W' ∧ Ix (.exit id) xs W'
  | .goto t, _, W' => Stay R W W' ∧ Stay K W W' ∧ Ix (.goto t) xs W'
  | .panic _, _, _ => False
  | .outgrown, _, _ => False

variable {F : Fence} {n : Nat} {P : Program}
/-- The law of the statement. -/
theorem loop_law {α : Type} {g : Operand} {ps : Array Tmp} {assign body : Code} {Q : Exit → Act → World → Prop} {a : Act} {w : World}
    (hro : F.round = none) (h1 : 1 ≤ n) {gf : Nat} {lb : Array Value} (hg : a.eval g = .func (.func gf) #[] lb) (hFg : F.fn gf) (eg : ∀ args w, (callFunc gf args).run P w = .ok (.enter gf args) w)
    {encs : α → Array Value} {own keep : Nat → Prop} {S Sp : List α → Prop} {N : Nat}
    (hseq : ∀ o, Gives F (n - 1) P gf lb encs own keep S Sp N ((w.alloc (.deferred (some []))).alloc (.loop o)))
    (hps : ∀ x, (encs x).size = ps.size) (hown : ∀ k, own k → k ≠ w.heap.size ∧ k ≠ w.heap.size + 1) (hkeep : ¬ keep (w.heap.size + 1))
    (I : List α → World → Prop) (Ix : Code → List α → World → Prop)
    (hI : Blind (fun k => own k ∨ k = w.heap.size ∨ k = w.heap.size + 1) I) (hIx : ∀ c, Blind (fun k => own k ∨ k = w.heap.size ∨ k = w.heap.size + 1) (Ix c)) (h0 : I [] w) (a₁ : α → Act)
    (hassign : ∀ (l : Nat) (x : α) (W : World) (K : Act → World → Prop), K (a₁ x) W →
      assign.wpIn (F.inRound l) (n - 1 - 1) P (Exit.then K (fun _ _ _ => False)) { tmps := (ps.zip (encs x)).foldl (fun t (p, v) => t.setIfInBounds p v) a.tmps, defers := [] } W)
    (hbody : ∀ (l : Nat) (pre : List α) (x : α) (W : World), I pre W → (∀ k, own k → k < W.heap.size) → w.heap.size + 1 < W.heap.size → pre.length < N →
      body.wpIn (F.inRound l) (n - 1 - 1) P (leave keep (fun k => k = w.heap.size ∨ k = w.heap.size + 1) I Ix (pre ++ [x]) W) (a₁ x) W)
    (hdone : ∀ (D : Nat) (xs : List α) (W : World), D = w.heap.size → S xs → I xs W → W.heap[D]? = some (.deferred (some [])) → Q .normal { a with defers := { target := .collected D, args := #[] } :: a.defers } W)
    (hstop : ∀ (D : Nat) (c : Code) (pre : List α) (W : World), D = w.heap.size → Sp pre → Ix c pre W → W.heap[D]? = some (.deferred (some [])) → c.wpIn F n P Q { a with defers := { target := .collected D, args := #[] } :: a.defers } W) :
    (Code.rangeFunc g ps assign body).wpIn F n P Q a w := by
  refine wpIn_rangeFunc fun fn hfn => ?_
  rw [hro]
  -- the record, by what turns in it
  obtain ⟨L, hL⟩ : ∃ L : LoopState → Option Code → Loop, L = fun s p => { state := s, pending := p, fn, tmps := a.tmps, params := ps, assign, body, defers := w.heap.size } := ⟨_, rfl⟩
  -- a record set anew
  have put : ∀ {β : Type} (J : β → World → Prop), (∀ s A B, J s A → Only (fun k => own k ∨ k = w.heap.size ∨ k = w.heap.size + 1) A B → J s B) → ∀ s A o, J s A → J s (A.putObj (w.heap.size + 1) o) :=
    fun J hJ s A o h => hJ s A _ h (Only.putObj A o (.inr (.inr rfl)))
  -- what goes through the iterator: the caller's state, the record, the block for deferred calls
  let J : List α → World → Prop := fun xs W => I xs W ∧ W.heap[w.heap.size + 1]? = some (.loop (L .ready none)) ∧ W.heap[w.heap.size]? = some (.deferred (some []))
  let Jx : List α → World → Prop := fun xs W => ∃ c, Ix c xs W ∧ W.heap[w.heap.size + 1]? = some (.loop (L .done (some c))) ∧ W.heap[w.heap.size]? = some (.deferred (some []))
  have stays : ∀ {A B : World} {k : Nat} {o : Obj}, Only own A B → (k = w.heap.size ∨ k = w.heap.size + 1) → A.heap[k]? = some o → B.heap[k]? = some o := fun {A B k o} h hk ho =>
    (h.block k (Array.getElem?_eq_some_iff.1 ho).1 (fun hf => by have := hown k hf; omega)).trans ho
  have bJ : Blind own J := fun xs A B h ho => ⟨hI xs A B h.1 (ho.mono fun k hk => .inl hk), stays ho (.inr rfl) h.2.1, stays ho (.inl rfl) h.2.2⟩
  have bJx : Blind own Jx := fun xs A B h ho => by
    obtain ⟨c, h1, h2, h3⟩ := h
    exact ⟨c, hIx c xs A B h1 (ho.mono fun k hk => .inl hk), stays ho (.inr rfl) h2, stays ho (.inl rfl) h3⟩
  have start : J [] ((w.alloc (.deferred (some []))).alloc (.loop (L .ready none))) := by
    refine ⟨hI [] w _ h0 (((Only.refl _ w).alloc _).alloc _), ?_, ?_⟩
    · have := World.alloc_heap_new (w.alloc (.deferred (some []))) (.loop (L .ready none))
      rwa [World.size_alloc] at this
    · exact (Below.heap_alloc _ _ _ (by simp)).trans (World.alloc_heap_new w _)
  refine ⟨w.heap.size + 1, [{ target := .collected w.heap.size, args := #[] }], (w.alloc (.deferred (some []))).alloc (.loop (L .ready none)), { target := .fn (.func gf) lb, args := #[.func (.yield (w.heap.size + 1)) #[] #[]] },
    (w.alloc (.deferred (some []))).alloc (.loop (L .ready none)), gf, #[.func (.yield (w.heap.size + 1)) #[] #[]] ++ lb, (w.alloc (.deferred (some []))).alloc (.loop (L .ready none)), ?_, ?_, ?_, ?_, fun _ => h1, ?_⟩
  · rw [hL]; exact run_enterLoop_outer _ _ _ _ _
  rotate_right
  · refine (hseq (L .ready none) (w.heap.size + 1) J Jx bJ bJx ?_ start).mono ?_
    · rintro pre x A ⟨hi, hl, hd⟩ hk hlen
      have hlt := (Array.getElem?_eq_some_iff.1 hl).1
      have hy := run_yield (P := P) (args := encs x) hl (by rw [hL]; exact hps x)
      rw [hL] at hy
      refine ⟨fn, _, assign, body, hy, roundIn_of_wpIn hfn (hassign _ x A _ ⟨_, run_beginRound hl (by rw [hL]), ?_⟩)⟩
      clear hy
      obtain ⟨Z, hZ⟩ : ∃ Z, A.putObj (w.heap.size + 1) (.loop { L .ready none with state := .busy }) = Z := ⟨_, rfl⟩
      rw [hZ]
      have sz : Z.heap.size = A.heap.size := by rw [← hZ]; simp
      have z1 : Z.heap[w.heap.size + 1]? = some (.loop { L .ready none with state := .busy }) := by rw [← hZ]; exact World.putObj_heap_same hlt
      have z2 : Z.heap[w.heap.size]? = some (.deferred (some [])) := by rw [← hZ]; exact (World.putObj_heap_other (by omega)).trans hd
      have z3 : Stay keep A Z := by rw [← hZ]; exact Stay.of_only (F := fun k => k = w.heap.size + 1) (Only.putObj A _ rfl) fun k hk e => hkeep (e ▸ hk)
      have z4 : I pre Z := by rw [← hZ]; exact put I hI pre A _ hi
      have last : ∀ (j : Option Code) (B : World), Stay (fun k => k = w.heap.size ∨ k = w.heap.size + 1) Z B →
          ∃ C, (Instr.endRound (w.heap.size + 1) j).run P B = .ok (.bool j.isNone) C ∧ (∀ J' : List α → World → Prop, Blind (fun k => own k ∨ k = w.heap.size ∨ k = w.heap.size + 1) J' → ∀ s, J' s B → J' s C) ∧
            C.heap[w.heap.size + 1]? = some (.loop (L (if j.isNone then .ready else .done) j)) ∧ C.heap[w.heap.size]? = some (.deferred (some [])) ∧ Stay keep B C := fun j B hB => by
        have b1 := hB.same (.inr rfl) z1
        have b2 := hB.same (.inl rfl) z2
        refine ⟨_, run_endRound (P := P) j b1, fun J' hJ' s h => put J' hJ' s B _ h, ?_, (World.putObj_heap_other (by omega)).trans b2, Stay.of_only (F := fun k => k = w.heap.size + 1) (Only.putObj B _ rfl) fun k hk e => hkeep (e ▸ hk)⟩
        rw [World.putObj_heap_same (Array.getElem?_eq_some_iff.1 b1).1, hL]
      refine wpIn_mono (hbody _ pre x Z z4 (fun k h => by rw [sz]; exact hk k h) (by omega) hlen) ?_
      have jump : ∀ (c : Code) (B : World), Stay (fun k => k = w.heap.size ∨ k = w.heap.size + 1) Z B → Stay keep Z B → Ix c (pre ++ [x]) B →
          ∃ v B', (Instr.endRound (w.heap.size + 1) (some c)).run P B = .ok v B' ∧ ((Ending.returned v = .returned (.bool true) ∧ J (pre ++ [x]) B' ∧ Stay keep A B') ∨ (Ending.returned v = .returned (.bool false) ∧ Jx (pre ++ [x]) B' ∧ Stay keep A B')) := fun c B hB hK hx => by
        obtain ⟨C, hr, hJ, c1, c2, c3⟩ := last (some c) B hB
        exact ⟨_, C, hr, .inr ⟨rfl, ⟨c, hJ (Ix c) (hIx c) _ hx, c1, c2⟩, z3.trans (hK.trans c3)⟩⟩
      rintro e a3 B hp
      cases e with
      | normal =>
        obtain ⟨hB, hK, hi3⟩ := hp
        obtain ⟨C, hr, hJ, c1, c2, c3⟩ := last none B hB
        exact ⟨_, C, hr, .inl ⟨rfl, ⟨hJ I hI _ hi3, c1, c2⟩, z3.trans (hK.trans c3)⟩⟩
      | ret => exact jump .ret B hp.1 hp.2.1 hp.2.2
      | exit id => exact jump (.exit id) B hp.1 hp.2.1 hp.2.2
      | goto t => exact jump (.goto t) B hp.1 hp.2.1 hp.2.2
      | panic ch => exact hp.elim
      | outgrown => exact hp.elim
    · rintro e B ⟨⟨v, rfl⟩, (⟨xs, hS, hi, hl, hd⟩ | ⟨pre, hSp, c, hi, hl, hd⟩)⟩
      · have r := run_endLoop (P := P) hl (by rw [hL]; simp)
        rw [hL] at r
        exact ⟨none, _, r, hdone _ xs _ rfl hS (put I hI _ _ _ hi) ((World.putObj_heap_other (by omega)).trans hd)⟩
      · have r := run_endLoop (P := P) hl (by rw [hL]; simp)
        rw [hL] at r
        exact ⟨some c, _, r, hstop _ c pre _ rfl hSp (put (Ix c) (hIx c) _ _ _ hi) ((World.putObj_heap_other (by omega)).trans hd)⟩
  · simp only [resolve, hg]
    simp [go_sem]
  · intro f' hf'; simp [Target.leads] at hf'; subst hf'; exact hFg
  · simp [invoke, go_sem, eg]
end Go.Proofs.YtganpdplikbppaaDoor
