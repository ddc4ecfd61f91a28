/- Arrays of rows beside a table; a script of steps; a table that a script has made. -/
import Derived.Test.YthlodfahajaneaaKp
set_option linter.unusedSimpArgs false
set_option linter.unusedVariables false
namespace Go.Proofs.Ythlodfahajaneaa
open Go Go.RowKit LockMath Go.Shelf
/-- A Want or a Free. -/
structure St where
  free : Bool
  p : Int
  id : Int
def s0 : St := ⟨false, 0, 0⟩
/-- A script in memory. -/
def SRow (w : World) (A : Option Addr) (l : List St) : Prop :=
  0 < l.length → ∃ b o, A = some ⟨b, o, none⟩ ∧ b < w.heap.size ∧ ∀ k, k < l.length → w.cell? ⟨b, o + k * 3, none⟩ = some (.bool (l.getD k s0).free) ∧ w.cell? ⟨b, o + k * 3 + 1, none⟩ = some (.int .i64 (l.getD k s0).p) ∧ w.cell? ⟨b, o + k * 3 + 2, none⟩ = some (.int .i64 (l.getD k s0).id)
theorem SRow.below {w w' : World} {A : Option Addr} {l : List St} (h : SRow w A l) (hb : Below w.heap.size w w') : SRow w' A l := fun h0 => by
  obtain ⟨b, o, e, hl, hc⟩ := h h0
  refine ⟨b, o, e, Nat.lt_of_lt_of_le hl hb.size, fun k hk => ?_⟩
  obtain ⟨c0, c1, c2⟩ := hc k hk
  exact ⟨(hb.cell (p := ⟨b, o + k * 3, none⟩) hl).trans c0, (hb.cell (p := ⟨b, o + k * 3 + 1, none⟩) hl).trans c1, (hb.cell (p := ⟨b, o + k * 3 + 2, none⟩) hl).trans c2⟩
/-! ### arrays of rows -/
structure Qn (w w' : World) (G : Nat) (As As' : List (Option Addr × Nat)) : Prop where
  only : Only (QF G As) w w'
  fr : ∀ k, QF G As' k → QF G As k ∨ w.heap.size ≤ k
section
variable {w0 w w1 u : World} {ts te : TypeId} {T G i : Nat} {As As' As'' : List (Option Addr × Nat)} {n : Int} {Q Q' : List (List Int)}
theorem Qm.ltF (h : Qm w0 w ts te G As Q) {k : Nat} (hk : QF G As k) : k < w.heap.size := by
  rcases hk with rfl | ⟨i, ad, hA, rfl⟩
  · exact h.ltG
  · exact h.lt (h.isome hA) hA
theorem Qm.hF (h : Qm w0 w ts te G As Q) {k : Nat} (hk : QF G As k) : w0.heap.size ≤ k := by
  rcases hk with rfl | ⟨i, ad, hA, rfl⟩
  · exact h.hG
  · exact h.hi i (h.isome hA) ad hA
theorem Qm.stay (h : Qm w0 w ts te G As Q) (hk : ∀ k, QF G As k → w1.heap[k]? = w.heap[k]?) : Qm w0 w1 ts te G As Q :=
  h.keep (hk G (.inl rfl)) fun i hi ad hA => hk _ (.inr ⟨i, ad, hA, rfl⟩)
theorem Qm.grow2 (h : Qm w0 u ts te G As Q) (hi : i < Q.length) (hw : w0.heap.size ≤ u.heap.size) {g c L : Nat} {p : Int} (hL : (qu Q i).length = L) (ho : OwnR w1 te 1 (some ⟨g, 0, none⟩) (L + 1) c (iv (qu Q i) ++ [.int .i64 p]))
    (hg : u.grownBy w1 ((qA As i).map (·.block))) (hE : qA As i = some ⟨g, 0, none⟩ ∨ g = u.heap.size) :
    Qm w0 (w1.setCell ⟨G, i, none⟩ (.slice (some ⟨g, 0, none⟩) (L + 1) c)) ts te G (As.set i (some ⟨g, 0, none⟩, c)) (Q.set i (qu Q i ++ [p])) ∧ Qn u (w1.setCell ⟨G, i, none⟩ (.slice (some ⟨g, 0, none⟩) (L + 1) c)) G As (As.set i (some ⟨g, 0, none⟩, c)) := by
  subst hL
  refine ⟨h.grow hi hw ho hg hE, ?_, fun k hk => ?_⟩
  · refine Only.setCell (((Only.refl _ u).grown hg fun k hk => ?_)) (.inl (.inl rfl)) _
    cases hA : qA As i with
    | none => rw [hA] at hk; cases hk
    | some ad =>
      rw [hA] at hk
      injection hk with hk
      exact .inl (.inr ⟨i, ad, hA, hk.symm⟩)
  · rcases hk with rfl | ⟨j, ad, hA, rfl⟩
    · exact .inl (.inl rfl)
    · rw [qA_set (by rw [h.al]; exact hi)] at hA
      split at hA
      · injection hA with hA
        subst hA
        rcases hE with hE | hE
        · exact .inl (.inr ⟨i, _, hE, rfl⟩)
        · exact .inr (by simp only; omega)
      · exact .inl (.inr ⟨j, ad, hA, rfl⟩)
/-- A row that was made since u is put. -/
theorem Qm.put2 (h : Qm w0 u ts te G As Q) (hi : i < Q.length) (hu : Below u.heap.size u w1) {A : Option Addr} {m c : Nat} {l : List Int} (hm : m = l.length) (hw : w0.heap.size ≤ u.heap.size)
    (ho : OwnR w1 te 1 A m c (iv l)) (hA : ∀ ad, A = some ad → u.heap.size ≤ ad.block) :
    Qm w0 (w1.setCell ⟨G, i, none⟩ (.slice A m c)) ts te G (As.set i (A, c)) (Q.set i l) ∧ Qn u (w1.setCell ⟨G, i, none⟩ (.slice A m c)) G As (As.set i (A, c)) := by
  refine ⟨h.put hi hm (hu.block _ h.ltG) ho (fun ad e => Nat.le_trans hw (hA ad e)) ?_, (Only.of_below _ hu).setCell (.inl (.inl rfl)) _, fun k hk => ?_⟩
  · intro j hj hji b hb
    refine ⟨hu.block _ (h.lt hj hb), fun a e => ?_⟩
    have := hA a e
    have := h.lt hj hb
    omega
  · rcases hk with rfl | ⟨j, ad, hB, rfl⟩
    · exact .inl (.inl rfl)
    · rw [qA_set (by rw [h.al]; exact hi)] at hB
      split at hB
      · exact .inr (hA ad hB)
      · exact .inl (.inr ⟨j, ad, hB, rfl⟩)
end
/-- Two sets of blocks have none in common. -/
def Dj (F F' : Nat → Prop) : Prop := ∀ k, F k → ¬ F' k
/-! ### a table that a script has made -/
theorem free_len' (Q : List (List Int)) (n p : Int) : (freeQ' Q n p).length = Q.length := by
  unfold freeQ'
  split
  · exact free_len Q p
  · rfl
def MadeP (w : World) (e : Ending) (w' : World) : Prop := ∃ T G As Q, e = .returned (.pointer (some ⟨T, 0, none⟩)) ∧ Lk w w' T G As 8 Q ∧ Q.length = 12
theorem made_calls (w : World) (A0 : Option Addr) (l : List St) (c : Nat) (hr : SRow w A0 l) (hlen : l.length ≤ 9223372036854775807) :
    Calls Try.prog 16 #[.slice A0 l.length c] w (MadeP w) := by
  have HR := Lib.hid hr
  obtain ⟨N, hN⟩ : ∃ N, l.length = N := ⟨_, rfl⟩
  have HL := Lib.hid hN
  rw [hN] at hlen ⊢
  clear hr hN
  go_enter Try.func16, Try.ntmps16
  go_wp2_with (fail)
  refine (new_calls 12 8 w (by decide)).mono ?_
  rintro e w1 ⟨T, G, rfl, h1, hb1⟩
  obtain ⟨A1, hA1⟩ : ∃ A1, A1 = List.replicate 12 ((none, 0) : Option Addr × Nat) := ⟨_, rfl⟩
  obtain ⟨Q1, hQ1⟩ : ∃ Q1, Q1 = List.replicate 12 ([] : List Int) := ⟨_, rfl⟩
  have hl1 : Q1.length = 12 := by rw [hQ1]; rfl
  rw [← hA1, ← hQ1] at h1
  have h1 : Hid (Lk w w1 T G A1 8 Q1) := ⟨h1, hb1⟩
  have HL1 := Lib.hid hl1
  clear hA1 hQ1 hb1 hl1
  go_wp2_with (fail)
  go_loopg [5] N (fun g s5 wx => ∃ (k : Nat) (As : List (Option Addr × Nat)) (Q : List (List Int)), k + g = N ∧ s5 = .int .i64 k ∧ Hid (Lk w wx T G As 8 Q) ∧ Hid (Q.length = 12))
  case atStart => exact ⟨0, A1, Q1, by omega, rfl, h1, HL1⟩
  case round =>
    obtain ⟨k, As, Q, hkg, rfl, hT, hQ⟩ := hrel
    cases gk with
    | zero =>
      obtain rfl : N = k := by omega
      go_wp2_with (fail)
      go_ret
      exact ⟨T, G, As, Q, rfl, hT.out, hQ.out⟩
    | succ g =>
      have hkN : k < N := by omega
      have hkN2 : (k : Int) < (N : Int) := by omega
      obtain ⟨b, o, rfl, hlt, hc⟩ := (HR.out.below hT.out.on) (by rw [HL.out]; omega)
      obtain ⟨c0, c1, c2⟩ := hc k (by rw [HL.out]; exact hkN)
      clear hc hlt
      generalize l.getD k s0 = s at *
      obtain ⟨fr, sp, sid⟩ := s
      simp only at c0 c1 c2
      cases fr with
      | true =>
        go_wp2_with (fail)
        refine (hT.out.free _ rfl rfl).mono ?_
        rintro e w2 ⟨rfl, As2, h2, _⟩
        have HQ2 : Hid ((freeQ' Q 8 (wrap64 ((IntKind.u64.wrap sp).tmod 8))).length = 12) := Lib.hid ((free_len' _ _ _).trans hQ.out)
        replace h2 := Lib.hid h2
        go_wp2_with (fail)
        go_roundg g
        case measure => omega
        case rel => exact ⟨k + 1, As2, _, by omega, by go_num, h2, HQ2⟩
      | false =>
        go_wp2_with (fail)
        refine (hT.out.want _ _ rfl rfl rfl).mono ?_
        rintro e w2 ⟨rfl, As2, h2, _⟩
        have HQ2 := Lib.hid ((want_len Q 8 (wrap64 ((IntKind.u64.wrap sp).tmod 8)) (wrap64 ((IntKind.u64.wrap sid).tmod 12))).trans hQ.out)
        replace h2 := Lib.hid h2
        go_wp2_with (fail)
        go_roundg g
        case measure => omega
        case rel => exact ⟨k + 1, As2, _, by omega, by go_num, h2, HQ2⟩
end Go.Proofs.Ythlodfahajaneaa
