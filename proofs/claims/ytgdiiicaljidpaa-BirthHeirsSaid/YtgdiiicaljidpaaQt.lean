/- BirthHeirs: rows of processes; what a region that begins something leaves; what one below the other has. -/
import Derived.Test.YtgdiiicaljidpaaQk
import Derived.Test.YtgdiiicaljidpaaQs
set_option linter.unusedSimpArgs false
set_option linter.unusedVariables false
namespace Go.Proofs.Ytgdiiicaljidpaa
open Go.RowKit
/-- A process, and where its groups lie. -/
structure Cx where
  c : Cr
  A : Option Addr
  n : Nat
instance inhCx : Inhabited Cx := ⟨⟨⟨0, 0, [], false⟩, none, 0⟩⟩
/-- A row of processes. -/
structure CRow (w : World) (A : Option Addr) (L : List Cx) : Prop where
  row : 0 < L.length → ∃ b o, A = some ⟨b, o, none⟩ ∧ b < w.heap.size ∧ ∀ (k : Nat) y, L[k]? = some y → ∀ j u, (y.c.c y.A y.n).toList[j]? = some u → w.cell? ⟨b, o + k * 4 + j, none⟩ = some u
  li : ∀ (k : Nat) y, L[k]? = some y → CLies w y.c y.A
theorem CRow.below {w w' : World} {A : Option Addr} {L : List Cx} (h : CRow w A L) (hb : Below w.heap.size w w') : CRow w' A L :=
  ⟨fun h0 => by
    obtain ⟨b, o, e, hl, hc⟩ := h.row h0
    exact ⟨b, o, e, Nat.lt_of_lt_of_le hl hb.size, fun k y hk j u hu => (hb.cell (p := ⟨b, o + k * 4 + j, none⟩) hl).trans (hc k y hk j u hu)⟩, fun k y hk => (h.li k y hk).below hb⟩
/-- What a law holds all along: attributes in a block of the call's own; what it was handed, as it lay at its beginning. -/
structure Hx (w V : World) (x : At) (p : ALie) (A : Option Addr) (L : List Cx) (B : Option Addr) (M : List Nat) : Prop where
  bt : Bt V w.heap.size x p
  al0 : ALies w x p
  cr0 : CRow w A L
  md0 : Cel w B (hv M)
  be : Below w.heap.size w V
section
variable {w V V' : World} {x : At} {p : ALie} {A : Option Addr} {L : List Cx} {B : Option Addr} {M : List Nat}
theorem Hx.al (h : Hx w V x p A L B M) : ALies V x p := h.al0.below h.be
theorem Hx.cr (h : Hx w V x p A L B M) : CRow V A L := h.cr0.below h.be
theorem Hx.md (h : Hx w V x p A L B M) : Cel V B (hv M) := h.md0.below h.be
theorem Hx.on (h : Hx w V x p A L B M) (hb : Below V.heap.size V V') : Hx w V' x p A L B M := ⟨h.bt.on hb, h.al0, h.cr0, h.md0, h.be.trans (hb.mono h.be.size)⟩
theorem Hx.turn (h : Hx w V x p A L B M) {g : Nat} (hg : w.heap.size < g) (D : Array Value) : Hx w (V.setRow g D) x p A L B M :=
  ⟨(setRow_other V g _ D (by omega)).trans h.bt, h.al0, h.cr0, h.md0, below_setRow h.be (by omega) _⟩
theorem Hx.start (hx : ALies w x p) (hc : CRow w A L) (hm : Cel w B (hv M)) : Hx w (w.alloc (.cells (x.c p) 31)) x p A L B M :=
  ⟨Bt.new w x p, hx, hc, hm, (Below.refl _ _).alloc (Nat.le_refl _) _⟩
end
/-- What an operation leaves, that stays where a variable of attributes turns. -/
def Sp4.turns (s : Sp4) : Prop := ∀ (v : Value) (u : World) (g : Nat) (C C0 : Array Value), u.heap[g]? = some (.cells C0 31 (0, 0)) → C0.size = 19 → C.size = 19 → s.ok v u → s.ok v (u.setRow g C)
theorem turns_val (v : Value) : (Sp4.val v).turns := fun _ _ _ _ _ _ _ _ h => h
theorem turns_any : Sp4.any.turns := fun _ _ _ _ _ _ _ _ h => h
theorem AOw.turnC {w : World} {x : At} {p : ALie} {g : Nat} {C : Array Value} (h : AOw w x p) (hg : w.heap[g]? = some (.cells C 31 (0, 0))) (D : Array Value) : AOw (w.setRow g D) x p := ⟨h.ac.turn hg (by decide) D, h.df.turn hg (by decide) D, h.xs.turn hg (by decide) D⟩
/-- Attributes with an error beside them; attributes; a variable of attributes. -/
def tupS (X : At) (N : Int) : Sp4 := .prop (fun v w => ∃ q, v = .tuple #[At.v X q, .int .i64 N] ∧ AOw w X q) fun v w w' h hb => by
  obtain ⟨q, e, hl⟩ := h
  exact ⟨q, e, hl.below hb⟩
def attS (X : At) : Sp4 := .prop (fun v w => ∃ q, v = At.v X q ∧ AOw w X q) fun v w w' h hb => by
  obtain ⟨q, e, hl⟩ := h
  exact ⟨q, e, hl.below hb⟩
def ptrS (B : Nat) : Sp4 := .prop (fun v w => ∃ g C, v = .pointer (some ⟨g, 0, none⟩) ∧ B ≤ g ∧ w.heap[g]? = some (.cells C 31 (0, 0)) ∧ C.size = 19) fun v w w' h hb => by
  obtain ⟨g, C, e, h1, h2, h3⟩ := h
  exact ⟨g, C, e, h1, (hb.block g (lt_of_cells h2)).trans h2, h3⟩
theorem turns_tup (X : At) (N : Int) : (tupS X N).turns := fun v u g C C0 hg _ _ h => by
  obtain ⟨q, e, hl⟩ := h
  exact ⟨q, e, hl.turnC hg C⟩
theorem turns_att (X : At) : (attS X).turns := fun v u g C C0 hg _ _ h => by
  obtain ⟨q, e, hl⟩ := h
  exact ⟨q, e, hl.turnC hg C⟩
theorem turns_ptr (B : Nat) : (ptrS B).turns := fun v u g C C0 hg h0 hC h => by
  obtain ⟨g', C', e, h1, h2, h3⟩ := h
  by_cases hgg : g' = g
  · subst hgg
    exact ⟨g', C, e, h1, setRow_heap _ _ _ _ _ _ h2, hC⟩
  · exact ⟨g', C', e, h1, (setRow_other u g g' C hgg).trans h2, h3⟩
theorem R4.turns {S : List Sp4} (hS : ∀ s ∈ S, s.turns) (i : Nat) (v : Value) (u : World) (g : Nat) (C C0 : Array Value) (hg : u.heap[g]? = some (.cells C0 31 (0, 0))) (h0 : C0.size = 19) (hC : C.size = 19) (h : R4 S i v u) : R4 S i v (u.setRow g C) := by
  unfold R4 at h ⊢
  rw [List.getD_eq_getElem?_getD] at h ⊢
  cases hs : S[i]? with
  | none => trivial
  | some s =>
    rw [hs] at h
    exact hS s (List.mem_of_getElem? hs) v u g C C0 hg h0 hC h
/-- What stands in the variable, once it is stored. -/
def PutZ (B : Nat) (X : At) (v : Value) (u : World) : Prop := ∃ g q, v = .pointer (some ⟨g, 0, none⟩) ∧ B ≤ g ∧ Ho u g X q
theorem PutZ.on {B : Nat} {X : At} (v : Value) (u u' : World) (h : PutZ B X v u) (hb : On u u') : PutZ B X v u' := by
  obtain ⟨g, q, e, h1, h2⟩ := h
  exact ⟨g, q, e, h1, h2.on hb⟩
theorem put_store {w : World} {S : List Sp4} {p q : Nat} {X : At} (hS : ∀ s ∈ S, s.turns) (hp : S.getD p .any = ptrS w.heap.size) (hq : S.getD q .any = attS X) (u : World) (vp vq : Value) (hb : On w u) (h1 : R4 S p vp u) (h2 : R4 S q vq u) :
    ∃ g C C0 t, vp = .pointer (some ⟨g, 0, none⟩) ∧ vq = .agg C ∧ w.heap.size ≤ g ∧ u.heap[g]? = some (.cells C0 t (0, 0)) ∧ (Try.prog.info? 31).map (·.size) = some C.size ∧ C0.size = C.size ∧ C.all (·.oneCell') = true ∧ PutZ w.heap.size X vp (u.setRow g C) ∧ ∀ i v, R4 S i v u → R4 S i v (u.setRow g C) := by
  obtain ⟨g, C0, e1, hg, hgc, h0⟩ := R4.at (ptrS w.heap.size) hp h1
  obtain ⟨r, e2, how⟩ := R4.at (attS X) hq h2
  exact ⟨g, At.c X r, C0, _, e1, e2, hg, hgc, attr_size, h0, c_one X r, ⟨g, r, e1, hg, setRow_heap _ _ _ _ _ _ hgc, how.turnC hgc _⟩, fun i v h => R4.turns hS i v u g _ C0 hgc h0 rfl h⟩
/-- One below the other: attributes that may be, and have what the first one hands on. -/
structure Heir (x y : At) : Prop where
  may : amayB y = true
  hd : y.hd = x.hd
  df : y.df = x.df
  bi : y.bi &&& 2 = x.bi &&& 2
  gi : x.bi &&& 2 ≠ 0 → y.gi = x.gi
theorem Heir.self {x : At} (h : amayB x = true) : Heir x x := ⟨h, rfl, rfl, rfl, fun _ => rfl⟩
theorem Heir.gid {x y : At} (h : Heir x y) (c : Cr) (h0 : x.bi &&& 2 ≠ 0) : gidN c y = x.gi := by
  unfold gidN
  rw [h.bi, if_neg h0]
  exact h.gi h0
theorem Heir.next {x y : At} (h : Heir x y) (c : Cr) (u m : Nat) : Heir x (newX c u y 2 m) := by
  have h8 : m / 512 % 8 < 8 := Nat.mod_lt _ (by decide)
  have e : (newX c u y 2 m).bi &&& 2 = y.bi &&& 2 := (dir_bits _ h8 _ (may8 h.may)).2.2.1
  exact ⟨may_newX h.may u 2 m, h.hd, h.df, e.trans h.bi, fun h0 => h.gid c h0⟩
theorem heir_beg {c : Cr} {y : At} (hc : c.gs.length ≤ 4) (h : amayB y = true) (k : Nat) (h1 : 1 ≤ k) (h3 : k ≤ 3) : begB c y k = true := by
  unfold begB
  rw [valid_of hc h, decide_eq_true h1, decide_eq_true h3]
  rfl
theorem heir_umask {y : At} (h : y.hd = true) (c : Cr) (u v m : Nat) : newX c v y 2 m = newX c u y 2 m := by
  have e : accA y v m = accA y u m := by
    unfold accA
    rw [h]
    rfl
  show (⟨_, _, _, accA y v m, _, _, _⟩ : At) = ⟨_, _, _, accA y u m, _, _, _⟩
  rw [e]
/-- A pointer to an element of a row of processes; a process that stands there. -/
theorem run_iaddrC {a : Act} {o : Oper} {u : World} {x y : Operand} (ho : o.op = .indexAddr 43 x y) (g off n c i : Nat) (h1 : a.eval x = .slice (some ⟨g, off, none⟩) n c) (h2 : a.eval y = .int .i64 (i : Nat)) (hi : i < n) : (execOp a.eval o).run Try.prog u = .ok (.value (.pointer (some ⟨g, off + i * 4, none⟩))) u := by
  have hi2 : (i : Int) < (n : Int) := by omega
  unfold execOp
  rw [ho]
  simp only [h1, h2]
  simp [go_sem, hi2]
end Go.Proofs.Ytgdiiicaljidpaa
