/- The group entries. -/
import Derived.Test.YtejhodjbgablaaaGe
import Derived.Test.YtejhodjbgablaaaGl
import Derived.Test.YtejhodjbgablaaaAtStp
set_option linter.unusedSimpArgs false
set_option linter.unusedVariables false
namespace Go.Proofs.Ytejhodjbgablaaa
open Go.RowKit
theorem insert_calls (A : Option Addr) (c gv : Nat) (p : Nm) (L : List Nm) (w : World) (k : Nat) (ho : OwnR w 43 2 A L.length c (nv L)) (hsm : L.length ≤ 1099511627776)
    (hv : w.heap[gv]? = some (.cells (onec p).toArray 43 (0, 0))) (hk : k ≤ w.heap.size) (hA : ∀ ad, A = some ad → k ≤ ad.block) :
    Calls Try.prog 51 #[.slice A L.length c, .int .i64 0, .slice (some ⟨gv, 0, none⟩) 1 1] w fun e w' => ∃ B d, e = .returned (.slice B (p :: L).length d) ∧ Cel w' B (nv (p :: L)) ∧ Below k w w' := by
  rcases Nat.eq_zero_or_pos L.length with h0 | h0
  · obtain rfl : L = [] := List.eq_nil_of_length_eq_zero h0
    exact insert_none A c gv p w k ho hv hk hA
  · have ho2 := ho
    obtain ⟨h1, h2, h3, h4⟩ := ho2
    rcases h4 with ⟨rfl, rfl⟩ | ⟨g, cur, rfl, hg, hcs, htk⟩
    · omega
    · have fin : ∀ e w', (∃ B d, e = Ending.returned (.slice B (L.length + 1) d) ∧ Hid (Cel w' B (nv (p :: L))) ∧ Below k w w') → ∃ B d, e = Ending.returned (.slice B (p :: L).length d) ∧ Cel w' B (nv (p :: L)) ∧ Below k w w' := by
        rintro e w' ⟨B, d, e1, e2, e3⟩
        exact ⟨B, d, e1, e2.out, e3⟩
      by_cases hr : L.length + 1 ≤ c
      · refine (insert_room g L.length c gv p L cur w k rfl h0 hr (by unfold maxLen at h3; omega) hg hcs (by rw [nv_length]; exact htk) hv ?_ (hA _ rfl)).mono fin
        intro e
        subst e
        rw [hv] at hg
        injection hg with hg
        injection hg with hg
        rw [← hg] at hcs
        simp at hcs
        omega
      · exact (insert_grow g L.length c gv p L w k rfl h0 h2 (by omega) hsm ho.cel hv hk).mono fin
section
variable {S : List Sp4} {l : List Oper} {a0 : Act} {w0 : World} {k : Nat} {o : Oper}
/-- An operation that makes memory. -/
theorem st4_mk (sp : Sp4) (hk : S.getD k .any = sp) (hg : Go4 S l o)
    (step : ∀ a u, On w0 u → Agree l a0 a → Deps S l o a u → ∃ v w', (execOp a.eval o).run Try.prog u = .ok (.value v) w' ∧ sp.ok v w' ∧ Below u.heap.size u w') :
    StepAt Try.prog On (R4 S) l a0 w0 k o := by
  intro a u hT hA hd
  obtain ⟨v, w', q1, q2, q3⟩ := step a u hT hA fun j dj hj hm sp hv => dep4 hd j dj hj hm sp hv
  exact .inl ⟨hg.wanted hd, StepOK.run v q1 (by unfold R4; rw [hk]; exact q2) q3⟩
end
/-- A row of perms, wherever it lies. -/
def rowS (l : List Nat) : Sp4 := .prop (fun v w => ∃ A c, v = .slice A l.length c ∧ Cel w A (bv l)) fun v w w' h hb => by
  obtain ⟨A, c, e, hc⟩ := h
  exact ⟨A, c, e, hc.below hb⟩
/-- A row of named ones, wherever it lies. -/
def namS (L : List Nm) : Sp4 := .prop (fun v w => ∃ A c, v = .slice A L.length c ∧ Cel w A (nv L)) fun v w w' h hb => by
  obtain ⟨A, c, e, hc⟩ := h
  exact ⟨A, c, e, hc.below hb⟩
/-- A row of named ones of the call's own. -/
def ownS (B : Nat) (L : List Nm) : Sp4 := .prop (fun v w => ∃ A c, v = .slice A L.length c ∧ OwnR w 43 2 A L.length c (nv L) ∧ ∀ ad, A = some ad → B ≤ ad.block) fun v w w' h hb => by
  obtain ⟨A, c, e, hc, hA⟩ := h
  exact ⟨A, c, e, hc.keep fun ad ha => hb.block _ (hc.lt ad ha), hA⟩
/-- A row of one. -/
def oneS (p : Nm) : Sp4 := .prop (fun v w => ∃ g, v = .slice (some ⟨g, 0, none⟩) 1 1 ∧ w.heap[g]? = some (.cells (onec p).toArray 43 (0, 0))) fun v w w' h hb => by
  obtain ⟨g, e, hg⟩ := h
  exact ⟨g, e, (hb.block g (lt_of_cells hg)).trans hg⟩
end Go.Proofs.Ytejhodjbgablaaa
