/- A row of entries of the call's own goes on; rows of words by their places. -/
import Derived.Test.YtphjppnkackmmaaYc
import Derived.Laws.CopyOwn
import Derived.StillTailTactics
import Derived.Lib.QuietBelow
set_option linter.unusedSimpArgs false
set_option linter.unusedVariables false
namespace Go.Proofs.Ytphjppnkackmmaa
open Go.RowKit SumMath WordMath Go.Sort
theorem Row.to_cel {w : World} {A : Option Addr} {l : List Nat} (h : Row w A l) : Cel w A (wv l) := fun h0 => by
  rw [wv_length] at h0
  obtain ⟨ad, e, hl, hc⟩ := h h0
  refine ⟨ad, e, hl, fun j u hu => ?_⟩
  have hj : j < l.length := by have := (List.getElem?_eq_some_iff.1 hu).1; rwa [wv_length] at this
  rw [wv_get l j hj] at hu
  rw [hc j hj]; exact hu
theorem Row.at0 {w : World} {A : Option Addr} {l : List Nat} (h : Row w A l) (h0 : 0 < l.length) : ∃ b o, A = some ⟨b, o, none⟩ ∧ b < w.heap.size ∧ ∀ k, k < l.length → w.cell? ⟨b, o + k, none⟩ = some (.int .u64 ((l.getD k 0 : Nat) : Int)) := by
  obtain ⟨b, o, e, hlt, hc⟩ := h.to_cel.at0 (by rw [wv_length]; exact h0)
  exact ⟨b, o, e, hlt, fun k hk => hc k _ (wv_get l k hk)⟩
theorem MineR.other {w w' : World} {A : Option Addr} {n c : Nat} {L : List Re} (h : MineR w w' A n c L) {a : Addr} (v : Value) (hne : a.block < w.heap.size) : MineR w (w'.setCell a v) A n c L :=
  ⟨h.1.keep fun ad e => Below.heap_setCell w' a v ad.block (by have := h.2 ad e; omega), h.2⟩
/-- The row goes on by one entry. -/
theorem MineR.step {w wa w1 : World} {A : Option Addr} {n g c' : Nat} {L ys : List Re} {e : Re} (hw : w.heap.size ≤ wa.heap.size) (hA : ∀ ad, A = some ad → w.heap.size ≤ ad.block) (hB : Below w.heap.size w wa)
    (hown : OwnR w1 38 2 (some ⟨g, 0, none⟩) (n + 1) c' (ev L ++ ev [e])) (hgr : wa.grownBy w1 (A.map (·.block))) (hg : A = some ⟨g, 0, none⟩ ∨ g = wa.heap.size) (hy : ys = L ++ [e]) :
    MineR w w1 (some ⟨g, 0, none⟩) (n + 1) c' ys ∧ Below w.heap.size w w1 := by
  subst hy
  refine ⟨⟨by rw [ev_append]; exact hown, fun ad e => ?_⟩, hB.grown hgr hw (fun k hk => ?_)⟩
  · injection e with e
    subst e
    rcases hg with h | h
    · exact hA _ h
    · show w.heap.size ≤ g
      omega
  · rcases hAA : A with _ | ad
    · rw [hAA] at hk; cases hk
    · rw [hAA] at hk
      have : ad.block = k := by simpa using hk
      rw [← this]
      exact hA _ hAA
theorem cells_re {w : World} {g : Nat} {p : Int} {x : Nat} {t : TypeId} (hw : w.heap[g]? = some (.cells #[.int .i64 p, .int .u64 (x : Int)] t (0, 0))) :
    ∀ j u, (ev [⟨p, x⟩])[j]? = some u → w.cell? ((⟨g, 0, none⟩ : Addr).add j) = some u := by
  intro j u hu
  rw [add_zero_block, cell_of_row w g j _ t (0, 0) hw, ← hu, List.getElem?_toArray]
  rfl
theorem frozen_of {w : World} {g k : Nat} {cs : Array Value} {t : TypeId} (h : w.heap[g]? = some (.cells cs t (0, 0))) : w.frozen? ⟨g, k, none⟩ = false := by
  simp [World.frozen?, h]
end Go.Proofs.Ytphjppnkackmmaa
