/- The words of a list's entries, and its commit word: the document's own, the program's. -/
import Derived.Test.YtphjppnkackmmaaYb
import Derived.Test.YtphjppnkackmmaaUx
import Derived.Test.YtphjppnkackmmaaUp
set_option linter.unusedSimpArgs false
set_option linter.unusedVariables false
namespace Go.Proofs.Ytphjppnkackmmaa
open Go.RowKit SumMath WordMath
/-- A row of words of the call's own (made at w). -/
def MineW (w w' : World) (A : Option Addr) (n c : Nat) (l : List Nat) : Prop := OwnR w' 31 1 A n c (wv l) ∧ ∀ ad, A = some ad → w.heap.size ≤ ad.block
theorem MineW.nil (w w' : World) : MineW w w' none 0 0 [] := ⟨OwnR.nil _ _ _, fun ad h => by cases h⟩
theorem MineW.row {w w' : World} {A : Option Addr} {n c : Nat} {l : List Nat} (h : MineW w w' A n c l) : Row w' A l := Row.of_cel h.1.cel
theorem MineW.on {w w' w'' : World} {A : Option Addr} {n c : Nat} {l : List Nat} (h : MineW w w' A n c l) (hb : Below w'.heap.size w' w'') : MineW w w'' A n c l :=
  ⟨h.1.keep fun ad e => hb.block _ (h.1.lt ad e), h.2⟩
theorem MineW.from {v w w' : World} {A : Option Addr} {n c : Nat} {l : List Nat} (h : MineW w w' A n c l) (hb : v.heap.size ≤ w.heap.size) : MineW v w' A n c l :=
  ⟨h.1, fun ad e => Nat.le_trans hb (h.2 ad e)⟩
theorem MineW.len {w w' : World} {A : Option Addr} {n c : Nat} {l : List Nat} (h : MineW w w' A n c l) : l.length = n := by
  have := h.1.1
  rw [wv_length] at this; omega
theorem MineW.cap {w w' : World} {A : Option Addr} {n c : Nat} {l : List Nat} (h : MineW w w' A n c l) : n ≤ c := h.1.2.1
theorem take_more {L : List Re} {k : Nat} (h : k < L.length) : L.take (k + 1) = L.take k ++ [L.getD k re0] := by
  rw [List.take_add_one, List.getD_eq_getElem?_getD, List.getElem?_eq_getElem h]; rfl
theorem body_more {L : List Re} {k : Nat} (h : k < L.length) : bodyL (L.take (k + 1)) = bodyL (L.take k) ++ [(L.getD k re0).pos.toNat, (L.getD k re0).word] := by
  rw [take_more h, body_snoc]
theorem body_wd {L : List Re} (h : ∀ k, k < L.length → (L.getD k re0).pos < 1048576 ∧ (L.getD k re0).word < 18446744073709551616) : Wd (bodyL L) := by
  refine Wd.of_mem fun x hx => ?_
  obtain ⟨j, hj, rfl⟩ := List.getElem_of_mem hx
  have hl := body_len L
  have h1 := body_at L (j / 2) (by omega)
  have h2 := h (j / 2) (by omega)
  have e : (bodyL L)[j] = (bodyL L).getD j 0 := by rw [List.getD_eq_getElem?_getD, List.getElem?_eq_getElem hj]; rfl
  rw [e]
  rcases (show j % 2 = 0 ∨ j % 2 = 1 by omega) with hp | hp
  · rw [show j = 2 * (j / 2) by omega, h1.1]; omega
  · rw [show j = 2 * (j / 2) + 1 by omega, h1.2]; omega
/-- Two words that were laid side by side. -/
theorem cells_two {w : World} {g : Nat} {x y : Nat} {t : TypeId} (hw : w.heap[g]? = some (.cells #[.int .u64 (x : Int), .int .u64 (y : Int)] t (0, 0))) :
    ∀ j u, (wv [x, y])[j]? = some u → w.cell? ((⟨g, 0, none⟩ : Addr).add j) = some u := by
  intro j u hu
  rw [add_zero_block, cell_of_row w g j _ t (0, 0) hw, ← hu, List.getElem?_toArray]
  rfl
/-- The row goes on. -/
theorem MineW.step {w wa w1 : World} {A : Option Addr} {n g c' : Nat} {l m ys : List Nat} (hw : w.heap.size ≤ wa.heap.size) (hA : ∀ ad, A = some ad → w.heap.size ≤ ad.block) (hB : Below w.heap.size w wa)
    (hown : OwnR w1 31 1 (some ⟨g, 0, none⟩) (n + 2) c' (wv l ++ wv m)) (hgr : wa.grownBy w1 (A.map (·.block))) (hg : A = some ⟨g, 0, none⟩ ∨ g = wa.heap.size) (hy : ys = l ++ m) :
    MineW w w1 (some ⟨g, 0, none⟩) (n + 2) c' ys ∧ Below w.heap.size w w1 := by
  subst hy
  refine ⟨⟨by rw [show wv (l ++ m) = wv l ++ wv m by simp [wv]]; exact hown, fun ad e => ?_⟩, hB.grown hgr hw (fun k hk => ?_)⟩
  · injection e with e
    subst e
    rcases hg with h | h
    · exact hA _ h
    · show w.heap.size ≤ g
      omega
  · rcases hAA : A with _ | ad
    · rw [hAA] at hk; cases hk
    · rw [hAA] at hk
      have : ad.block = k := by simpa using hk
      rw [← this]
      exact hA _ hAA
theorem ev_of {a : Act} {d : Tmp} {v : Value} (h : a.eval (.tmp d) = v) : a.tmps[d]?.getD undef = v := by
  simpa [Act.eval] using h
/-- Operation 12 leaves a row of two words; what the others leave. -/
def BoR (S : List Sp4) (B p x : Nat) (i : Nat) (v : Value) (w : World) : Prop :=
  if i = 12 then ∃ g, v = .slice (some ⟨g, 0, none⟩) 2 2 ∧ w.heap[g]? = some (.cells #[.int .u64 (p : Int), .int .u64 (x : Int)] 31 (0, 0)) ∧ B ≤ g else R4 S i v w
theorem BoR.stable {S : List Sp4} {B p x i : Nat} {v : Value} {w w' : World} (h : BoR S B p x i v w) (hb : On w w') : BoR S B p x i v w' := by
  unfold BoR at h ⊢
  split
  · rw [if_pos (by assumption)] at h
    obtain ⟨g, e, hg, hB⟩ := h
    exact ⟨g, e, (Below.block hb g (lt_of_cells hg)).trans hg, hB⟩
  · rw [if_neg (by assumption)] at h
    exact Sp4.stable h hb
def GoodR (L : List Re) : Prop := ∀ k, k < L.length → 0 ≤ (L.getD k re0).pos ∧ (L.getD k re0).pos < 1048576 ∧ (L.getD k re0).word < 18446744073709551616
theorem GoodR.wd {L : List Re} (h : GoodR L) : Wd (bodyL L) := body_wd fun k hk => (h k hk).2
def GivesW (l : List Nat) (w : World) (e : Ending) (w' : World) : Prop := ∃ A c, e = .returned (.slice A l.length c) ∧ MineW w w' A l.length c l ∧ Below w.heap.size w w'
/-- The commit word of a body. -/
def commitW (l : List Nat) : Nat := l.length / 2 + 20992 + 4294967296 * wordsV l
theorem commit_body (L : List Re) : commitW (bodyL L) = commitN L := by
  unfold commitW commitN
  rw [body_len, show 2 * L.length / 2 = L.length by omega]
theorem commit_sum (n x : Nat) (hn : n < 256) (hx : x < 4294967296) : IntKind.u64.wrap ((n : Int) + 20992) = (n : Int) + 20992 ∧ IntKind.u64.wrap ((x : Int) * 4294967296) = (x : Int) * 4294967296 ∧ (n : Int) + 20992 + (x : Int) * 4294967296 = ((n + 20992 + 4294967296 * x : Nat) : Int) := by
  refine ⟨?_, ?_, by omega⟩ <;> rw [IntKind.wrap_u64] <;> omega
theorem or_low (n : Nat) (hn : n < 256) : bits .or .u64 (n : Int) 20992 = ((n + 20992 : Nat) : Int) := by
  rw [show (20992 : Int) = ((20992 : Nat) : Int) from rfl, u64_or_nat _ _ (by omega) (by omega)]
  congr 1
  have := Nat.two_pow_add_eq_or_of_lt (i := 8) (show n < 2 ^ 8 by simpa using hn) 82
  rw [Nat.or_comm, show (20992 : Nat) = 2 ^ 8 * 82 from rfl, ← this, Nat.add_comm]
theorem or_high (a x : Nat) (ha : a < 4294967296) (hx : x < 4294967296) : bits .or .u64 ((a : Nat) : Int) ((x : Int) * 4294967296) = ((a + 4294967296 * x : Nat) : Int) := by
  rw [show ((x : Int) * 4294967296) = ((x * 4294967296 : Nat) : Int) by simp, u64_or_nat _ _ (by omega) (by omega)]
  congr 1
  have := Nat.two_pow_add_eq_or_of_lt (i := 32) (show a < 2 ^ 32 by simpa using ha) x
  rw [Nat.or_comm, Nat.mul_comm x, show (4294967296 : Nat) = 2 ^ 32 from rfl, ← this, Nat.add_comm]
/-- What Lay answers. -/
def layL (L : List Re) : List Nat := if rmayE L = 0 then bodyL L else []
def layC (L : List Re) : Nat := if rmayE L = 0 then commitN L else 0
theorem layL_yes {L : List Re} (h : rmayE L = 0) : layL L = bodyL L := if_pos h
theorem layC_yes {L : List Re} (h : rmayE L = 0) : layC L = commitN L := if_pos h
theorem layL_no {L : List Re} (h : rmayE L ≠ 0) : layL L = [] := if_neg h
theorem layC_no {L : List Re} (h : rmayE L ≠ 0) : layC L = 0 := if_neg h
def LayP (L : List Re) (w : World) (e : Ending) (w' : World) : Prop :=
  ∃ R cr, e = .returned (.tuple #[.slice R (layL L).length cr, .int .u64 (layC L : Nat), .int .i64 (rmayE L)]) ∧ MineW w w' R (layL L).length cr (layL L) ∧ Below w.heap.size w w'
theorem LayP.no {L : List Re} {w w' : World} {E : Int} (h : rmayE L = E) (h0 : E ≠ 0) (hb : Below w.heap.size w w') : LayP L w (.returned (.tuple #[.slice none 0 0, .int .u64 0, .int .i64 E])) w' := by
  have h1 : rmayE L ≠ 0 := by rw [h]; exact h0
  refine ⟨none, 0, ?_, ?_, hb⟩
  · rw [layL_no h1, layC_no h1, h]; rfl
  · rw [layL_no h1]; exact MineW.nil _ _
theorem LayP.yes {L : List Re} {w w' : World} {R : Option Addr} {m cr : Nat} (h : rmayE L = 0) (hm : (bodyL L).length = m) (hr : MineW w w' R m cr (bodyL L)) (hb : Below w.heap.size w w') : LayP L w (.returned (.tuple #[.slice R m cr, .int .u64 (commitN L : Nat), .int .i64 0])) w' := by
  refine ⟨R, cr, ?_, ?_, hb⟩
  · rw [layL_yes h, layC_yes h, h, hm]
  · rw [layL_yes h, hm]; exact hr
theorem good_of {L : List Re} (hn : RN L) (h : GoodTo L L.length) : GoodR L := fun k hk => ⟨(h k hk).1, (h k hk).2, (hn k hk).2.2⟩
theorem good_may {L : List Re} (hn : RN L) (h : rmayE L = 0) : GoodR L := good_of hn fun j hj => (rmay_0 h).2 j hj
end Go.Proofs.Ytphjppnkackmmaa
