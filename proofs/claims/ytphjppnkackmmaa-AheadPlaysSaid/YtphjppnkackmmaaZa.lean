/- Tables in memory: a map of the call's own that reads as a table, in a struct behind a pointer; what turns nothing but it. -/
import Derived.Test.YtphjppnkackmmaaZd
import Derived.Test.YtphjppnkackmmaaYe
set_option linter.unusedSimpArgs false
set_option linter.unusedVariables false
namespace Go.Proofs.Ytphjppnkackmmaa
open Go Go.Maps Go.RowKit SumMath WordMath
theorem kInt : Keyed Try.prog 3 := int_keyed Try.underlying3
theorem zeroU (w : World) : (zeroValue 31).run Try.prog w = .ok (.int .u64 0) w := by kernel_rfl
theorem owns_tight {H : Type} {P : Program} {k : TypeId} {R : Value → Option (DataW H × List MemPlace)} {w : World} {b n : Nat} {D : DataW H} (h : w.ownsMap P k R b n D) : w.ownsMap P k R b (Maps.size D) D := by
  obtain ⟨es, clock, hb, F, hs, rfl⟩ := h
  exact ⟨es, clock, hb, F, by simp [Maps.size, length_sorted], rfl⟩
theorem wf_i64 {p : Int} (h0 : -9223372036854775808 ≤ p) (h1 : p ≤ 9223372036854775807) : (Lit.int .i64 p).wf = true := by
  exact WalkArith.wf_i64 ⟨h0, h1⟩
theorem key_i64 {p : Int} (h0 : -9223372036854775808 ≤ p) (h1 : p ≤ 9223372036854775807) : keyOf Try.prog 3 (.int .i64 p) = some (kI p) := keyOf_int_mk Try.underlying3 (wf_i64 h0 h1)
theorem wf_u64 {x : Nat} (h : x < 18446744073709551616) : (Lit.int .u64 (x : Int)).wf = true := by
  exact WalkArith.wf_u64 (by omega)
/-- Block b is a map that reads as the table T. -/
def MH (w : World) (b : Nat) (T : List Re) : Prop := ∃ D : DataW Unit, w.ownsMap Try.prog 3 (plainElem Try.prog 31) b T.length D ∧ MapIs D T
section
variable {w w' : World} {b n : Nat} {T : List Re}
theorem MH.of {D : DataW Unit} (h : w.ownsMap Try.prog 3 (plainElem Try.prog 31) b n D) (m : MapIs D T) : MH w b T := ⟨D, by rw [← m.size]; exact owns_tight h, m⟩
theorem MH.rise (h : MH w b T) : Rise T := by obtain ⟨D, _, m⟩ := h; exact m.rise
theorem MH.map (h : MH w b T) : ∃ es clock, w.heap[b]? = some (.map es clock) := by
  obtain ⟨D, ⟨es, clock, hb, _⟩, _⟩ := h
  exact ⟨es, clock, hb⟩
theorem MH.lt (h : MH w b T) : b < w.heap.size := by
  obtain ⟨D, h, _⟩ := h
  exact h.lt
theorem MH.keep (h : MH w b T) (hb : w'.heap[b]? = w.heap[b]?) : MH w' b T := by
  obtain ⟨D, ⟨es, clock, h1, F, hs, hD⟩, m⟩ := h
  exact ⟨D, ⟨es, clock, hb.trans h1, F, hs, hD⟩, m⟩
/-- What reads as cells is no map. -/
theorem MH.ne_cells (h : MH w b T) {g : Nat} {cur : Array Value} {t : TypeId} {z : Nat × Nat} (hg : w.heap[g]? = some (.cells cur t z)) : g ≠ b := by
  rintro rfl
  obtain ⟨es, clock, hb⟩ := h.map
  rw [hg] at hb
  cases hb
theorem MH.ne_cell (h : MH w b T) {a : Addr} {v : Value} (ha : w.cell? a = some v) : a.block ≠ b := by
  rintro rfl
  obtain ⟨es, clock, hb⟩ := h.map
  unfold World.cell? at ha
  rw [hb] at ha
  simp at ha
/-- The map alone has turned: cells read as they did. -/
theorem Cel.turned {A : Option Addr} {xs : List Value} (h : Cel w A xs) (m : MH w b T) (hg : w.grownBy w' (some b)) : Cel w' A xs := fun h0 => by
  obtain ⟨ad, e, hl, hc⟩ := h h0
  have h00 := hc 0 _ (List.getElem?_eq_getElem h0)
  have hne := m.ne_cell h00
  rw [add_block] at hne
  refine ⟨ad, e, Nat.lt_of_lt_of_le hl hg.size, fun j u hu => ?_⟩
  exact (World.cell?_of_block (by rw [add_block]; exact hg.block ad.block hl (fun e => hne (by injection e)))).trans (hc j u hu)
theorem OwnR.turned {e : TypeId} {size n c : Nat} {A : Option Addr} {xs : List Value} (h : OwnR w e size A n c xs) (m : MH w b T) (hg : w.grownBy w' (some b)) : OwnR w' e size A n c xs := by
  have hl := h.lt
  refine h.keep fun ad hA => hg.block ad.block (hl ad hA) fun e => ?_
  obtain ⟨_, _, _, h4⟩ := h
  rcases h4 with ⟨h4, _⟩ | ⟨g, cur, h4, hgg, _⟩
  · rw [h4] at hA; cases hA
  · rw [h4] at hA
    injection hA with hA
    subst hA
    exact m.ne_cells hgg (by injection e)
theorem MineR.turned {w0 : World} {n c : Nat} {A : Option Addr} {L : List Re} (h : MineR w0 w A n c L) (m : MH w b T) (hg : w.grownBy w' (some b)) : MineR w0 w' A n c L := ⟨h.1.turned m hg, h.2⟩
end
/-- A table behind a pointer. -/
structure Ah (w : World) (g b : Nat) (T : List Re) : Prop where
  at' : w.heap[g]? = some (.cells #[.map (some b)] 52 (0, 0))
  map : MH w b T
section
variable {w w' : World} {g b : Nat} {T : List Re}
theorem Ah.keep (h : Ah w g b T) (h1 : w'.heap[g]? = w.heap[g]?) (h2 : w'.heap[b]? = w.heap[b]?) : Ah w' g b T := ⟨h1.trans h.at', h.map.keep h2⟩
theorem Ah.ltg (h : Ah w g b T) : g < w.heap.size := lt_of_cells h.at'
theorem Ah.ltb (h : Ah w g b T) : b < w.heap.size := h.map.lt
theorem Ah.below (h : Ah w g b T) (hb : Below w.heap.size w w') : Ah w' g b T := h.keep (hb.block _ h.ltg) (hb.block _ h.ltb)
theorem Ah.rise (h : Ah w g b T) : Rise T := h.map.rise
theorem Ah.ne (h : Ah w g b T) : g ≠ b := h.map.ne_cells h.at'
/-- The map alone has turned, and reads as U. -/
theorem Ah.turn {U : List Re} (h : Ah w g b T) (hg : w.grownBy w' (some b)) (hm : MH w' b U) : Ah w' g b U :=
  ⟨(hg.block g h.ltg (fun e => h.ne (by injection e))).trans h.at', hm⟩
theorem Ah.cell (h : Ah w g b T) : w.cell? ⟨g, 0, none⟩ = some (.map (some b)) := by
  rw [cell_of_row w g 0 _ 52 (0, 0) h.at']; rfl
end
/-- What Put leaves. -/
def putR (T L : List Re) : List Re := if negB L then T else putsT T L
end Go.Proofs.Ytphjppnkackmmaa
