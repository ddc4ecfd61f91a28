/- Attributes as values and as blocks; rows of keys and values. -/
import Derived.Test.YtejhodjbgablaaaAc6
import Derived.Test.YtejhodjbgablaaaAtMath
import Derived.Laws.StructEq
import Derived.StillTactics
set_option linter.unusedSimpArgs false
set_option linter.unusedVariables false
namespace Go.Proofs.Ytejhodjbgablaaa
open Go.RowKit
/-- As cells. -/
def xv : List Xt → List Value
  | [] => []
  | p :: r => .string p.key :: .string p.val :: xv r
theorem xv_length (L : List Xt) : (xv L).length = L.length * 2 := by
  induction L with
  | nil => rfl
  | cons p r ih => simp only [xv, List.length_cons, ih]; omega
theorem xv_one (L : List Xt) : ∀ u ∈ xv L, u.oneCell' = true := by
  induction L with
  | nil => simp [xv]
  | cons p r ih =>
    intro u hu
    simp only [xv, List.mem_cons] at hu
    rcases hu with rfl | rfl | hu
    · rfl
    · rfl
    · exact ih u hu
theorem xv_get {L : List Xt} : ∀ {k : Nat} {p : Xt}, L[k]? = some p → (xv L)[k * 2]? = some (.string p.key) ∧ (xv L)[k * 2 + 1]? = some (.string p.val) := by
  induction L with
  | nil => intro k p h; simp at h
  | cons q r ih =>
    intro k p h
    cases k with
    | zero =>
      simp only [List.getElem?_cons_zero, Option.some.injEq] at h
      subst h
      exact ⟨rfl, rfl⟩
    | succ k =>
      rw [List.getElem?_cons_succ] at h
      obtain ⟨h1, h2⟩ := ih h
      rw [show (k + 1) * 2 = k * 2 + 1 + 1 by omega, show k * 2 + 1 + 1 + 1 = k * 2 + 1 + 1 + 1 from rfl]
      simp only [xv, List.getElem?_cons_succ]
      exact ⟨h1, h2⟩
theorem xv_setKey (L : List Xt) : ∀ {k : Nat} {p : Xt} (s : ByteArray), L[k]? = some p → xv (L.set k ⟨s, p.val⟩) = (xv L).set (k * 2) (.string s) := by
  induction L with
  | nil => intro k p n h; simp at h
  | cons q r ih =>
    intro k p n h
    cases k with
    | zero =>
      simp only [List.getElem?_cons_zero, Option.some.injEq] at h
      subst h
      rfl
    | succ k =>
      rw [List.getElem?_cons_succ] at h
      rw [show (k + 1) * 2 = k * 2 + 1 + 1 by omega, List.set_cons_succ]
      simp only [xv, List.set_cons_succ]
      rw [ih n h]
theorem xattr_info : (Try.prog.info? 58).map (fun i => (i.zero, i.size, i.bytes)) = some (some (.agg #[.string ⟨#[]⟩, .string ⟨#[]⟩]), 2, 32) := by kernel_rfl
/-- A row of the call's own (made at w). -/
def MineX (w w' : World) (A : Option Addr) (n c : Nat) (L : List Xt) : Prop := OwnR w' 58 2 A n c (xv L) ∧ ∀ ad, A = some ad → w.heap.size ≤ ad.block
theorem MineX.cel {w w' : World} {A : Option Addr} {n c : Nat} {L : List Xt} (h : MineX w w' A n c L) : Cel w' A (xv L) := h.1.cel
theorem MineX.on {w w' w'' : World} {A : Option Addr} {n c : Nat} {L : List Xt} (h : MineX w w' A n c L) (hb : Below w'.heap.size w' w'') : MineX w w'' A n c L :=
  ⟨h.1.keep fun ad e => hb.block _ (h.1.lt ad e), h.2⟩
theorem MineX.from {v w w' : World} {A : Option Addr} {n c : Nat} {L : List Xt} (h : MineX w w' A n c L) (hb : v.heap.size ≤ w.heap.size) : MineX v w' A n c L :=
  ⟨h.1, fun ad e => Nat.le_trans hb (h.2 ad e)⟩
theorem MineX.other {w w' : World} {A : Option Addr} {n c : Nat} {L : List Xt} (h : MineX w w' A n c L) {a : Addr} (v : Value) (hne : ∀ ad, A = some ad → ad.block ≠ a.block) : MineX w (w'.setCell a v) A n c L :=
  ⟨h.1.keep fun ad e => Below.heap_setCell w' a v ad.block (hne ad e), h.2⟩
set_option maxRecDepth 100000 in
/-- 'append(nil, l...)'. -/
theorem run_xcl (A : Option Addr) (L : List Xt) (c : Nat) (w : World) (ty : TypeId) (hc : Cel w A (xv L)) (hl : L.length ≤ 1099511627776) :
    ∃ B cB w', (Builtin.append_ #[29, 29] ty #[.slice none 0 0, .slice A L.length c]).run Try.prog w = .ok (.slice B L.length cB) w' ∧ MineX w w' B L.length cB L ∧ Below w.heap.size w w' := by
  obtain ⟨i0, hi, hz0, hz1, hz2⟩ := info_parts xattr_info
  rcases A with _ | ad
  · have h0 : L = [] := by
      cases L with
      | nil => rfl
      | cons x r => obtain ⟨ad, h, _⟩ := hc (by rw [xv_length]; simp); cases h
    subst h0
    refine ⟨none, 0, w, ?_, ⟨OwnR.nil _ _ _, fun ad h => by cases h⟩, Below.refl _ _⟩
    simp [Builtin.append_, run_underlying Try.underlying29, sizeOf, typeInfo, hi, Builtin.lenOf, Builtin.firstCells]
  · have hcell : ∀ j u, (xv L)[j]? = some u → w.cell? (ad.add j) = some u := by
      intro j u hu
      obtain ⟨ad', h, _, hcc⟩ := hc (by have := (List.getElem?_eq_some_iff.1 hu).1; omega)
      injection h with h
      subst h
      exact hcc j u hu
    obtain ⟨v', w', hrun, h2, h3, _⟩ := run_append_own (P := Try.prog) w w.heap.size 29 ty 58 i0 (.agg #[.string ⟨#[]⟩, .string ⟨#[]⟩]) 2 32 Try.underlying29 hi hz0 hz1 hz2 rfl (by decide) (.slice none 0 0) 0 [] (World.ownsRow_nil _ _ _ _) ad L.length c (xv L) (xv_length L) hcell (xv_one L) (by unfold maxLen; omega) (by omega) (Nat.le_refl _)
    simp only [Nat.zero_add, List.nil_append] at hrun h2
    obtain ⟨B, cB, rfl, hO, hb⟩ := OwnR.of_own h2
    exact ⟨B, cB, w', hrun, ⟨hO, hb⟩, (Below.refl _ _).grown h3 (Nat.le_refl _) (fun k hk => by simp [Value.ownBlock] at hk)⟩
theorem wpList_xcl {w : World} {ops : Array Oper} {rest : List Oper} {o : Oper} {a : Act} {Q : Exit → Act → World → Prop} (hgd : o.guard = none) (s x : Operand)
    (ho : o.op = .call { callee := .builtin .append, args := #[s, x], argTypes := #[29, 29] })
    (A : Option Addr) (L : List Xt) (c : Nat) (hs : a.eval s = .slice none 0 0) (hx : a.eval x = .slice A L.length c) (hr : Cel w A (xv L)) (hlen : L.length ≤ 1099511627776)
    (h : ∀ B cB w', MineX w w' B L.length cB L → Below w.heap.size w w' → wpList Try.prog ops Q rest (a.put o.dst (.slice B L.length cB)) w') : wpList Try.prog ops Q (o :: rest) a w :=
  wpList_plain hgd fun _ hK => by
    obtain ⟨B, cB, w', hrun, h2, h3⟩ := run_xcl A L c w o.type hr hlen
    unfold Oper.wp execOp
    simp only [ho, resolve, invoke, builtin, Sem.run_bind, Sem.run_pure, Result.andThen_ok, List.map_toArray, List.map_cons, List.map_nil, hs, hx, hrun]
    exact hK _ _ (h B cB w' h2 h3)
/-- Element k's two cells. -/
theorem Cel.xt {w : World} {A : Option Addr} {L : List Xt} (h : Cel w A (xv L)) (h0 : 0 < L.length) : ∃ b o, A = some ⟨b, o, none⟩ ∧ b < w.heap.size ∧ ∀ k p, L[k]? = some p → w.cell? ⟨b, o + k * 2, none⟩ = some (.string p.key) ∧ w.cell? ⟨b, o + k * 2 + 1, none⟩ = some (.string p.val) := by
  obtain ⟨b, o, e, hlt, hc⟩ := h.at0 (by rw [xv_length]; omega)
  refine ⟨b, o, e, hlt, fun k p hk => ?_⟩
  obtain ⟨h1, h2⟩ := xv_get hk
  exact ⟨hc _ _ h1, by rw [Nat.add_assoc]; exact hc _ _ h2⟩
/-! ### which are the same -/
def eqX1 (a b c d : ByteArray) : Bool := decide (a = c) && decide (b = d)
theorem ba_toList {s t : ByteArray} : s.toList = t.toList ↔ s = t := by
  constructor
  · intro h
    rw [ByteArray.toList_eq, ByteArray.toList_eq] at h
    cases s; cases t
    simp only at h
    rw [Array.toList_inj.1 h]
  · rintro rfl; rfl
set_option maxRecDepth 100000 in
theorem eqXt (a b c d : ByteArray) (w : World) :
    (Op.equalIn 10000 58 (.agg #[.string a, .string b]) (.agg #[.string c, .string d])).run Try.prog w = .ok (eqX1 a b c d) w := by
  have u5 := Try.underlying9
  have a5 := Try.isAgg9
  have z5 := Try.sizeOf9
  have hS : Try.prog.underlying 58 = some (.struct (Try.prog.fieldsOf 58)) := by kernel_rfl
  have hp : Try.prog.stoodInHeld 58 = false := by kernel_rfl
  rw [show (10000 : Nat) = 9999 + 1 from rfl, run_equalIn_agg w 9999 58 _ _ hS hp]
  simp only [Program.fieldsOf, Try.underlying58]
  go_simp
  unfold eqX1
  by_cases h1 : a = c <;> by_cases h2 : b = d <;> simp [h1, h2, ba_toList]
def AlikeX (L M : List Xt) (k : Nat) : Prop := ∀ j, j < k → L[j]? = M[j]?
theorem AlikeX.more {L M : List Xt} {k : Nat} (h : AlikeX L M k) (e : L[k]? = M[k]?) : AlikeX L M (k + 1) := fun j hj => by
  by_cases h1 : j < k
  · exact h j h1
  · obtain rfl : j = k := by omega
    exact e
theorem AlikeX.eq {L M : List Xt} (h : AlikeX L M L.length) (hl : L.length = M.length) : L = M := by
  apply List.ext_getElem?
  intro i
  by_cases hi : i < L.length
  · exact h i hi
  · rw [List.getElem?_eq_none (by omega), List.getElem?_eq_none (by omega)]
instance : DecidableEq Xt := fun p q => if h : p.key = q.key ∧ p.val = q.val then isTrue (by cases p; cases q; simp only at h; rw [h.1, h.2]) else isFalse (by rintro rfl; exact h ⟨rfl, rfl⟩)
def xrowsB (L M : List Xt) : Bool := decide (L = M)
theorem xrowsB_self (L : List Xt) : xrowsB L L = true := decide_eq_true rfl
theorem xrowsB_no {L M : List Xt} (h : L ≠ M) : xrowsB L M = false := decide_eq_false h
theorem xrowsB_iff {L M : List Xt} : xrowsB L M = true ↔ L = M := decide_eq_true_iff
theorem xrowsB_at {L M : List Xt} {k : Nat} {p q : Xt} (hp : L[k]? = some p) (hq : M[k]? = some q) (h : p ≠ q) : xrowsB L M = false :=
  xrowsB_no (by rintro rfl; rw [hp] at hq; cases hq; exact h rfl)
theorem xt_ext {p q : Xt} (h1 : p.key = q.key) (h2 : p.val = q.val) : p = q := by cases p; cases q; simp only at h1 h2; rw [h1, h2]
theorem eqX1_yes (a b : ByteArray) : eqX1 a b a b = true := by simp [eqX1]
theorem eqX1_no {p q : Xt} (h : p ≠ q) : eqX1 p.key p.val q.key q.val = false := by
  cases hb : eqX1 p.key p.val q.key q.val
  · rfl
  · simp only [eqX1, Bool.and_eq_true, decide_eq_true_eq] at hb
    exact absurd (xt_ext hb.1 hb.2) h
end Go.Proofs.Ytejhodjbgablaaa
